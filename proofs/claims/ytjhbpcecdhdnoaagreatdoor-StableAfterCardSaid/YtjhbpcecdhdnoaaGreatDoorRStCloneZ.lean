/-
  slices.Clone of entries walked.
  stable's isRecord, place and termBefore walked.
  stable's twin walked.
-/
import Derived.Test.YtjhbpcecdhdnoaaGreatDoorRStSaveZ
import Derived.Test.YtjhbpcecdhdnoaaGreatDoorRBldZ
import Derived.Test.YtjhbpcecdhdnoaaGreatDoorRWrBZ
import Derived.Test.YtjhbpcecdhdnoaaGreatDoorRDkP
import Derived.OwnWalk
import Derived.Deep.RegionLaw
set_option linter.unusedSimpArgs false
set_option linter.unusedVariables false
namespace Go.Proofs.YtjhbpcecdhdnoaaGreatDoor
open Go.RowKit
theorem ents_nil (W : World) : Sem.run Tryz.prog (binOp BinOp.eql 56 (.slice none 0 0) (.slice none 0 0)) W = .ok (.bool true) W := by kernel_rfl
theorem ents_some (a : Addr) (n c : Nat) (W : World) : Sem.run Tryz.prog (binOp BinOp.eql 56 (.slice (some a) n c) (.slice none 0 0)) W = .ok (.bool false) W := by kernel_rfl
theorem own_none13 (W : World) : (W.alloc (.cells #[] 88)).ownsRow W.heap.size 88 13 (.slice (some ⟨W.heap.size, 0, none⟩) 0 0) 0 [] :=
  ⟨rfl, .inr ⟨W.heap.size, 0, #[], rfl, Nat.le_refl _, heap_alloc_new W _, Nat.le_refl _, Nat.zero_le _, rfl, rfl⟩⟩
theorem addr_off (b off i : Nat) : (⟨b, off, none⟩ : Addr).add i = ⟨b, off + i, none⟩ := by unfold Addr.add; split <;> simp_all
theorem ecs_one (es : List En.E) : ∀ v ∈ ec es, v.oneCell' = true := by
  intro v hv
  unfold ec at hv
  obtain ⟨l, hl, hv⟩ := List.mem_flatten.1 hv
  obtain ⟨e, _, rfl⟩ := List.mem_map.1 hl
  have := (entF e).one
  rw [Array.all_eq_true_iff_forall_mem] at this
  exact this v (by rw [← Array.mem_toList_iff, ec1_toList]; exact hv)
def Nilly (A : Option Addr) (c : Nat) : Prop := A = none → c = 0
set_option maxRecDepth 100000 in
set_option maxHeartbeats 1000000 in
theorem cloneE_gen (w : World) (A : Option Addr) (c : Nat) (es : List En.E) (hA : Lies w A (ec es)) (hz : Nilly A c) (hn : es.length ≤ 1000000) :
    Calls Tryz.prog 121 #[.slice A es.length c] w fun e w' => ∃ A' c', e = .returned (.slice A' es.length c') ∧ w'.ownsRow w.heap.size 88 13 (.slice A' es.length c') es.length (ec es) ∧ Below w.heap.size w w' := by
  obtain ⟨i0, hi, hz0, hz1, hz2⟩ := info_parts infoEn
  rcases (show (∃ a, A = some a) ∨ (A = none ∧ c = 0) by cases A with
    | none => exact .inr ⟨rfl, hz rfl⟩
    | some a => exact .inl ⟨a, rfl⟩) with ⟨ad, rfl⟩ | ⟨rfl, rfl⟩
  · have Hc : Hid (∀ j u, (ec es)[j]? = some u → (w.alloc (.cells #[] 88)).cell? (ad.add j) = some u) := Lib.hid fun j u hu => by
      rcases hA with h | ⟨b', off', he, _, hc⟩
      · rw [h] at hu; cases hu
      · injection he with he
        subst he
        rw [addr_off]
        exact later (bnew (Below.refl _ _) _) (hc j u hu)
    have HL := Lib.hid (And.intro (ec_length es) (ecs_one es))
    obtain ⟨n, hnn⟩ : ∃ n, n = es.length := ⟨_, rfl⟩
    rw [← hnn] at HL hn ⊢
    clear hA hnn hz
    have q0 := ents_some ad n c
    go_enter Tryz.func121, Tryz.ntmps121
    go_wp2_with (at_builtin; refine wpList_app_own rfl (.tmp 5) (.tmp 6) 56 rfl w.heap.size 88 i0 (.agg (entC En.zero)) 13 48 Tryz.underlying56 hi hz0 hz1 hz2 rfl (by decide) _ _ _ rfl (own_none13 w) ad n c (ec es) rfl (by have := HL.out.1; omega) Hc.out HL.out.2 (by simp only [maxLen]; omega) (by omega) (by simp) ?_)
    intro v' w' ho hg hn'
    obtain ⟨A', c', rfl, _⟩ := own_slice ho
    have HO : Hid (w'.ownsRow w.heap.size 88 13 (.slice A' n c') n (ec es)) := Lib.hid (by simpa using ho)
    have HB : Hid (Below w.heap.size w w') := Lib.hid ((bnew (Below.refl _ _) _).grown hg (by simp) (fun j hj => (own_lt (own_none13 w) hj).2))
    clear ho hg hn'
    go_wp2_with fail
    go_ret
    exact ⟨A', c', by first | rfl | simp, HO.out, HB.out⟩
  · have he : es = [] := by
      rcases hA with h | ⟨_, _, h, _⟩
      · have := ec_length es
        rw [h] at this
        exact List.eq_nil_of_length_eq_zero (by simp at this; omega)
      · cases h
    subst he
    have q0 := ents_nil
    clear hA hn hz
    simp only [List.length_nil]
    go_enter Tryz.func121, Tryz.ntmps121
    go_wp2_with fail
    go_ret
    exact ⟨none, 0, rfl, ⟨rfl, .inl ⟨rfl, rfl⟩⟩, Below.refl _ _⟩
theorem nilly_of {A : Option Addr} {c : Nat} (hz : (∃ b off, A = some ⟨b, off, none⟩) ∨ (A = none ∧ c = 0)) : Nilly A c := by
  rcases hz with ⟨b, off, rfl⟩ | ⟨rfl, rfl⟩
  · intro h; cases h
  · intro _; rfl
theorem cloneE_any (w : World) (A : Option Addr) (c : Nat) (es : List En.E) (hA : Lies w A (ec es)) (hz : (∃ b off, A = some ⟨b, off, none⟩) ∨ (A = none ∧ c = 0)) (hn : es.length ≤ 1000000) :
    Calls Tryz.prog 121 #[.slice A es.length c] w fun e w' => ∃ A' c', e = .returned (.slice A' es.length c') ∧ w'.ownsRow w.heap.size 88 13 (.slice A' es.length c') es.length (ec es) ∧ Below w.heap.size w w' := cloneE_gen w A c es hA (nilly_of hz) hn
end Go.Proofs.YtjhbpcecdhdnoaaGreatDoor
namespace Go.Proofs.YtjhbpcecdhdnoaaGreatDoor
open Go.RowKit
def placeV (i n x : Nat) : Value := if i < x ∧ x - i - 1 ≤ n then .tuple #[.int .i64 ((x - i - 1 : Nat) : Int), .bool true] else .tuple #[.int .i64 0, .bool false]
set_option maxRecDepth 100000 in
set_option maxHeartbeats 2000000 in
theorem place_any (k : St.K) (A : Option Addr) (cap : Nat) (x : Nat) (w : World) (hx : x < Nm.top) (hk : k.snap.idx < Nm.top) (hl : k.ents.length ≤ 1000000000) :
    Calls Tryz.prog 124 #[.agg (kC k (.slice A k.ents.length cap)), .int .u64 (x : Int)] w fun r w' => r = .returned (placeV k.snap.idx k.ents.length x) ∧ Below w.heap.size w w' := by
  have hx2 : x ≤ 18446744073709551615 := by unfold Nm.top at hx; omega
  have hk2 : k.snap.idx ≤ 18446744073709551615 := by unfold Nm.top at hk; omega
  unfold kC
  obtain ⟨n, hn⟩ : ∃ n, n = k.ents.length := ⟨_, rfl⟩
  obtain ⟨i, hi⟩ : ∃ i, i = k.snap.idx := ⟨_, rfl⟩
  rw [← hn] at hl ⊢
  rw [← hi] at hk2 ⊢
  clear hn hi hx hk
  by_cases h1 : i < x
  · have d1 : decide ((x : Int) ≤ (i : Int)) = false := by simp; omega
    have e1 : ((x : Int) ≤ (i : Int)) = False := by simp; omega
    by_cases h2 : x - i - 1 ≤ n
    · have E : Hid (placeV i n x = .tuple #[.int .i64 ((x : Int) - (i : Int) - 1), .bool true]) := Lib.hid (by unfold placeV; rw [if_pos ⟨h1, h2⟩, show ((x - i - 1 : Nat) : Int) = (x : Int) - (i : Int) - 1 by omega])
      have d2 : decide ((n : Int) < (x : Int) - (i : Int) - 1) = false := by simp; omega
      have e2 : ((n : Int) < (x : Int) - (i : Int) - 1) = False := by simp; omega
      have p1 : (0 : Int) ≤ (x : Int) - (i : Int) := by omega
      have p2 : (0 : Int) ≤ (x : Int) - (i : Int) - 1 := by omega
      have p3 : (x : Int) - (i : Int) - 1 ≤ 1000000000 := by omega
      clear h1 h2
      go_enter Tryz.func124, Tryz.ntmps124
      go_wp2_with fail
      go_ret2
      exact ⟨by rw [E.out]; rfl, bnew (Below.refl _ _) _⟩
    · have E : Hid (placeV i n x = .tuple #[.int .i64 0, .bool false]) := Lib.hid (by unfold placeV; rw [if_neg (by omega)])
      have d2 : decide ((n : Int) < (x : Int) - (i : Int) - 1) = true := by simp; omega
      have e2 : ((n : Int) < (x : Int) - (i : Int) - 1) = True := by simp; omega
      have p1 : (0 : Int) ≤ (x : Int) - (i : Int) := by omega
      have p2 : (0 : Int) ≤ (x : Int) - (i : Int) - 1 := by omega
      clear h1 h2
      go_enter Tryz.func124, Tryz.ntmps124
      go_wp2_with fail
      go_ret2
      exact ⟨by rw [E.out]; rfl, bnew (Below.refl _ _) _⟩
  · have E : Hid (placeV i n x = .tuple #[.int .i64 0, .bool false]) := Lib.hid (by unfold placeV; rw [if_neg (by omega)])
    have d1 : decide ((x : Int) ≤ (i : Int)) = true := by simp; omega
    have e1 : ((x : Int) ≤ (i : Int)) = True := by simp; omega
    clear h1
    go_enter Tryz.func124, Tryz.ntmps124
    go_wp2_with fail
    go_ret2
    exact ⟨by rw [E.out]; rfl, bnew (Below.refl _ _) _⟩
set_option maxRecDepth 100000 in
set_option maxHeartbeats 2000000 in
theorem termBefore_any (k : St.K) (A : Option Addr) (cap : Nat) (i : Nat) (w : World) (hA : Lies w A (ec k.ents)) (hi : i ≤ k.ents.length) (hl : k.ents.length ≤ 1000000000) :
    Calls Tryz.prog 125 #[.agg (kC k (.slice A k.ents.length cap)), .int .i64 (i : Int)] w fun r w' => r = .returned (.int .u64 ((St.before k i : Nat) : Int)) ∧ Below w.heap.size w w' := by
  cases i with
  | zero =>
    have E : Hid (St.before k 0 = k.snap.trm) := Lib.hid rfl
    unfold kC
    clear hA hi hl
    go_enter Tryz.func125, Tryz.ntmps125
    go_wp2_with fail
    go_ret
    exact ⟨by rw [E.out]; rfl, bnew (Below.refl _ _) _⟩
  | succ j =>
    have E : Hid (St.before k (j + 1) = (k.ents[j]'(by omega)).trm) := Lib.hid (St.before_succ k (by omega))
    obtain ⟨b, off, rfl, hE⟩ := hA.ent j (by omega)
    have c1 := hE.c1
    obtain ⟨t, ht⟩ : ∃ t, t = (k.ents[j]'(by omega)).trm := ⟨_, rfl⟩
    rw [← ht] at E c1
    obtain ⟨n, hn⟩ : ∃ n, n = k.ents.length := ⟨_, rfl⟩
    unfold kC
    rw [← hn] at hl ⊢
    have hj : j + 1 ≤ n := by omega
    have hlt := hE.lt
    have q0 : (((j + 1 : Nat) : Int) == 0) = false := by simp; omega
    have q1 : (((j + 1 : Nat) : Int) = 0) = False := by simp; omega
    clear hE ht hn hA hi
    go_enter Tryz.func125, Tryz.ntmps125
    go_wp2_with fail
    go_ret
    exact ⟨by rw [E.out]; rfl, bnew (Below.refl _ _) _⟩
set_option maxRecDepth 100000 in
set_option maxHeartbeats 4000000 in
theorem isRecord_of (hE : ∀ (e : En.E) (W : World), Calls Tryz.prog 181 #[.agg (entC e)] W (RetTr (En.may e) W)) (r : Wl.R) (w : World) :
    Calls Tryz.prog 123 #[.agg (recC r)] w (RetTr (Wl.right r) w) := by
  have HE := Lib.hid hE
  clear hE
  have FX := recF r
  have hz : ∀ W, (binOp .eql 88 (.agg #[.int .u64 (r.ent.idx : Int), .int .u64 (r.ent.trm : Int), .int .u8 (r.ent.kind : Int), .int .u8 (r.ent.slot : Int), .int .u8 (r.ent.tok.a0.toNat : Int), .int .u8 (r.ent.tok.a1.toNat : Int), .int .u8 (r.ent.tok.a2.toNat : Int), .int .u8 (r.ent.tok.a3.toNat : Int), .int .u8 (r.ent.tok.a4.toNat : Int), .int .u8 (r.ent.tok.a5.toNat : Int), .int .u8 (r.ent.tok.a6.toNat : Int), .int .u8 (r.ent.tok.a7.toNat : Int), .string r.ent.body]) (.agg #[.int .u64 0, .int .u64 0, .int .u8 0, .int .u8 0, .int .u8 0, .int .u8 0, .int .u8 0, .int .u8 0, .int .u8 0, .int .u8 0, .int .u8 0, .int .u8 0, .string ⟨#[]⟩])).run Tryz.prog W = .ok (.bool (decide (r.ent = En.zero))) W := fun W => (ent_eql r.ent En.zero W).trans (congrArg (fun b => Result.ok (Value.bool b) W) (wdec _ _))
  have hcall : ∀ W, Calls Tryz.prog 181 #[.agg #[.int .u64 (r.ent.idx : Int), .int .u64 (r.ent.trm : Int), .int .u8 (r.ent.kind : Int), .int .u8 (r.ent.slot : Int), .int .u8 (r.ent.tok.a0.toNat : Int), .int .u8 (r.ent.tok.a1.toNat : Int), .int .u8 (r.ent.tok.a2.toNat : Int), .int .u8 (r.ent.tok.a3.toNat : Int), .int .u8 (r.ent.tok.a4.toNat : Int), .int .u8 (r.ent.tok.a5.toNat : Int), .int .u8 (r.ent.tok.a6.toNat : Int), .int .u8 (r.ent.tok.a7.toNat : Int), .string r.ent.body]] W (RetTr (En.may r.ent) W) := fun W => HE.out r.ent W
  have Hcall := Lib.hid hcall
  clear hcall
  generalize recC r = X at FX ⊢
  obtain ⟨hx, ho, x0, x1, x2, x3, x4, x5, x6, x7, x8, x9, x10, x11, x12, x13, x14, x15⟩ := FX
  have hst := storeRec X hx ho
  by_cases h2 : r.kind = 2
  · have E : Hid (Wl.right r = decide (r.ent = En.zero)) := Lib.hid (by unfold Wl.right; exact (if_pos h2).trans (wdec _ _))
    have d1 : ((r.kind : Int) == 2) = true := by simp; omega
    have d2 : ((r.kind : Int) = 2) = True := by simp; omega
    clear h2
    go_enter Tryz.func123, Tryz.ntmps123
    go_wp2_with fail
    go_ret
    exact ⟨by rw [E.out]; rfl, bnew (Below.refl _ _) _⟩
  have d1 : ((r.kind : Int) == 2) = false := by simp; omega
  have d2 : ((r.kind : Int) = 2) = False := by simp; omega
  by_cases h3 : r.kind = 3
  case neg =>
    have E : Hid (Wl.right r = false) := Lib.hid (by unfold Wl.right; rw [if_neg h2]; simp [h3])
    have e1 : ((r.kind : Int) == 3) = false := by simp; omega
    have e2 : ((r.kind : Int) = 3) = False := by simp; omega
    clear h2 h3
    go_enter Tryz.func123, Tryz.ntmps123
    go_wp2_with fail
    go_ret
    exact ⟨by rw [E.out]; rfl, bnew (Below.refl _ _) _⟩
  have e1 : ((r.kind : Int) == 3) = true := by simp; omega
  have e2 : ((r.kind : Int) = 3) = True := by simp; omega
  by_cases h4 : r.trm = 0
  case neg =>
    have E : Hid (Wl.right r = false) := Lib.hid (by unfold Wl.right; rw [if_neg h2]; simp [h4])
    have f1 : ((r.trm : Int) == 0) = false := by simp; omega
    have f2 : ((r.trm : Int) = 0) = False := by simp; omega
    clear h2 h3 h4
    go_enter Tryz.func123, Tryz.ntmps123
    go_wp2_with fail
    go_ret
    exact ⟨by rw [E.out]; rfl, bnew (Below.refl _ _) _⟩
  have f1 : ((r.trm : Int) == 0) = true := by simp; omega
  have f2 : ((r.trm : Int) = 0) = True := by simp; omega
  by_cases h5 : r.vote = 0
  case neg =>
    have E : Hid (Wl.right r = false) := Lib.hid (by unfold Wl.right; rw [if_neg h2]; simp [h5])
    have g1 : ((r.vote : Int) == 0) = false := by simp; omega
    have g2 : ((r.vote : Int) = 0) = False := by simp; omega
    clear h2 h3 h4 h5
    go_enter Tryz.func123, Tryz.ntmps123
    go_wp2_with fail
    go_ret
    exact ⟨by rw [E.out]; rfl, bnew (Below.refl _ _) _⟩
  have g1 : ((r.vote : Int) == 0) = true := by simp; omega
  have g2 : ((r.vote : Int) = 0) = True := by simp; omega
  have E : Hid (Wl.right r = En.may r.ent) := Lib.hid (by unfold Wl.right; rw [if_neg h2]; simp [h3, h4, h5])
  clear h2 h3 h4 h5
  go_enter Tryz.func123, Tryz.ntmps123
  go_wp2_with (go_at_call 181; refine (Hcall.out _).mono ?_; rintro e w1 ⟨rfl, hb1⟩)
  go_ret
  exact ⟨by rw [E.out]; rfl, bnext (bnew (Below.refl _ _) _) hb1⟩
theorem isRecord_any (r : Wl.R) (w : World) : Calls Tryz.prog 123 #[.agg (recC r)] w (RetTr (Wl.right r) w) := isRecord_of (fun e W => right_any e W) r w
end Go.Proofs.YtjhbpcecdhdnoaaGreatDoor
namespace Go.Proofs.YtjhbpcecdhdnoaaGreatDoor
open Go.RowKit
theorem kC_snap (k : St.K) (v : Value) : ∀ j, j < (snC k.snap).size → (kC k v)[2 + j]? = (snC k.snap)[j]? := fun j hj => by
  have : (snC k.snap).size = 8 := rfl
  match j, hj with
  | 0, _ => rfl
  | 1, _ => rfl
  | 2, _ => rfl
  | 3, _ => rfl
  | 4, _ => rfl
  | 5, _ => rfl
  | 6, _ => rfl
  | 7, _ => rfl
theorem kC_lay (k : St.K) (s : St.Sn) (v : Value) : lay (kC k v) 2 (snC s).toList = kC ⟨k.trm, k.vote, s, k.ents⟩ v := by simp [lay, kC, snC]
theorem kC_put (k : St.K) (v u : Value) : (kC k v).setIfInBounds 10 u = kC k u := by simp [kC]
theorem kC_10 (k : St.K) (v : Value) : (kC k v)[10]? = some v := rfl
theorem kC_one (k : St.K) (A : Option Addr) (n c : Nat) : (kC k (.slice A n c)).all (·.oneCell') = true := by simp [kC, Value.oneCell']
theorem sizeKept' (k : St.K) (v : Value) : (Tryz.prog.info? 58).map (·.size) = some (kC k v).size := sizeKept
theorem sizeEnt' (e : En.E) : (Tryz.prog.info? 88).map (·.size) = some (entC e).size := sizeEnt
theorem own_same13 {w : World} {B : Nat} {A : Option Addr} {n c : Nat} {es : List En.E} (h : w.ownsRow B 88 13 (.slice A n c) n (ec es)) (i : Nat) (hi : i < es.length) (hn : n = es.length) :
    ∃ b, A = some ⟨b, 0, none⟩ ∧ B ≤ b ∧ b < w.heap.size ∧ w.there b (i * 13) 13 ∧ w.rangeAt b (i * 13) (entC es[i]).toList ∧ (w.setCells b (i * 13) (entC es[i]).toList).ownsRow B 88 13 (.slice A n c) n (ec es) := by
  rcases h.2 with ⟨hv, h0⟩ | ⟨g, cap, cur, hv, hb, hg, h1, h2, h3, h4⟩
  · exfalso; omega
  · injection hv with e1 e2 e3
    subst e1 e3
    have hlen := h.1
    have hle : 13 * i + 13 ≤ n * 13 := by omega
    have hcell : ∀ j, j < 13 → cur[i * 13 + j]? = (ec1 es[i])[j]? := fun j hj => by
      have e1 := ec_at es i hi j hj
      rw [← h4, List.getElem?_take_of_lt (by omega)] at e1
      rw [Nat.mul_comm i 13, ← e1]
      simp
    have hsz : i * 13 + 13 ≤ cur.size := by rw [h3]; have : n * 13 ≤ c * 13 := Nat.mul_le_mul_right _ h1; omega
    have hrow : Rw w g cur 88 := hg
    refine ⟨g, rfl, hb, hrow.lt, there_row hg (i * 13) 13 hsz, ?_, ⟨h.1, .inr ⟨g, c, cur, rfl, hb, ?_, h1, h2, h3, h4⟩⟩⟩
    · intro j v hv
      have hj : j < 13 := by
        have := (List.getElem?_eq_some_iff.1 hv).1
        exact this
      rw [cell_of_row w g (i * 13 + j) _ _ _ hg, hcell j hj, ← ec1_toList]
      exact hv
    · have key : ∀ (vs : List Value) (k : Nat) (W : World), Rw W g cur 88 → (∀ j v, vs[j]? = some v → cur[k + j]? = some v) → Rw (W.setCells g k vs) g cur 88 := by
        intro vs
        induction vs with
        | nil => intro k W h _; exact h
        | cons v r ih =>
          intro k W h hv
          rw [World.setCells]
          exact ih (k + 1) _ (h.same k v (hv 0 v rfl)) fun j u hu => by
            have := hv (j + 1) u (by simpa using hu)
            rw [← this]; congr 1; omega
      exact key _ _ w hrow fun j v hv => by
        have hj : j < 13 := (List.getElem?_eq_some_iff.1 hv).1
        rw [hcell j hj, ← ec1_toList]
        exact hv
set_option maxRecDepth 100000 in
set_option maxHeartbeats 4000000 in
theorem twin_gen (k : St.K) (A : Option Addr) (c : Nat) (w : World) (hA : Lies w A (ec k.ents)) (hz : Nilly A c) (hs : St.Sec k.snap) (hn : k.ents.length ≤ 1000000) (hb : ∀ e ∈ k.ents, e.body.size ≤ 140737488355328) :
    Calls Tryz.prog 63 #[.agg (kC k (.slice A k.ents.length c))] w fun r w' => ∃ A' c', r = .returned (.agg (kC k (.slice A' k.ents.length c'))) ∧ w'.ownsRow w.heap.size 88 13 (.slice A' k.ents.length c') k.ents.length (ec k.ents) ∧ Below w.heap.size w w' := by
  have HS := Lib.hid (fun W => ownSnap_any k.snap W hs)
  have HA := Lib.hid hA
  have HC := Lib.hid (fun W hb => cloneE_gen W A c k.ents (hA.below (w' := W) hb) hz hn)
  have HE := Lib.hid (fun i (hi : i < k.ents.length) W => ownEntry_any k.ents[i] W (hb _ (List.getElem_mem hi)))
  obtain ⟨X, hX⟩ : ∃ X, X = kC k (.slice A k.ents.length c) := ⟨_, rfl⟩
  obtain ⟨Y, hY⟩ : ∃ Y, Y = snC k.snap := ⟨_, rfl⟩
  obtain ⟨n, hnn⟩ : ∃ n, n = k.ents.length := ⟨_, rfl⟩
  have HX : Hid (X.size = 11 ∧ (∀ j, j < Y.size → X[2 + j]? = Y[j]?) ∧ X[10]? = some (.slice A n c) ∧ lay X 2 Y.toList = X ∧ (∀ v, X.setIfInBounds 10 v = kC k v)) := Lib.hid (by
    rw [hX, hY, hnn]
    exact ⟨rfl, kC_snap _ _, rfl, by rw [kC_lay], fun v => by rw [kC_put]⟩)
  have HY : Hid (Y.all (·.oneCell') = true ∧ (Tryz.prog.info? 55).map (·.size) = some Y.size ∧ Y.size = 8) := Lib.hid (by rw [hY]; exact ⟨snC_one _, sizeSnap, rfl⟩)
  have HZ := Lib.hid (sizeKept' k)
  have Hn := Lib.hid hnn
  rw [← hX, ← hnn]
  rw [← hY] at HS
  rw [← hnn] at HC hn
  clear hX hY hnn hA hz hs hb
  go_enter Tryz.func63, Tryz.ntmps63
  go_upto_region 1 with (fail)
  refine forget (fun W => Rw W w.heap.size X 58 ∧ Rw W (w.heap.size + 1) (kC St.zero (.slice none 0 0)) 58 ∧ Bl w W ∧ w.heap.size ≤ w.heap.size) ⟨(Rw.new w X _).alloc _, by have := Rw.new (w.alloc (.cells X 58)) (kC St.zero (.slice none 0 0)) 58; rw [World.size_alloc] at this; exact this, ((Bl.refl w).alloc _).alloc _, Nat.le_refl _⟩ ?_
  intro W1 H1
  obtain ⟨g, hg⟩ : ∃ g, g = w.heap.size := ⟨_, rfl⟩
  have hg2 : w.heap.size ≤ g := by omega
  rw [← hg] at H1 ⊢
  clear hg
  have HI := Lib.hid H1
  clear H1
  go_wp2_with (first
    | (refine wpList_load_sub rfl 55 _ rfl g 2 rfl 58 X Y (0, 0) _ HI.out.1 HX.out.2.1 Tryz.underlying55 rfl HY.out.2.1 ?_))
  refine (HS.out _).mono ?_
  rintro r w1 ⟨rfl, hb1⟩
  have H2 : Hid (Rw w1 g X 58 ∧ Rw (w1.setCells g 2 Y.toList) g X 58 ∧ Rw (w1.setCells g 2 Y.toList) (g + 1) (kC St.zero (.slice none 0 0)) 58 ∧ Bl w (w1.setCells g 2 Y.toList)) := Lib.hid (by
    have r1 := HI.out.1.bel hb1
    refine ⟨r1, ?_, (HI.out.2.1.bel hb1).oputs (by omega) _ _, (HI.out.2.2.1.next hb1).puts hg2 _ _⟩
    have := r1.puts 2 Y.toList
    rwa [HX.out.2.2.2.1] at this)
  have c10 := H2.out.2.1.cell 10 HX.out.2.2.1
  clear hb1 HI
  go_wp2_with (refine wpList_store_sub rfl 55 _ _ rfl g 2 rfl 58 X Y rfl H2.out.1 (by rw [HX.out.1, HY.out.2.2]; decide) HY.out.2.1 HY.out.1 ?_)
  clear c10
  generalize w1.setCells g 2 Y.toList = w2 at *
  refine (HC.out w2 H2.out.2.2.2).mono ?_
  rintro r w3 ⟨A', c', rfl, ho, hb3⟩
  have H3 : Hid (Rw (w3.setCell ⟨g, 10, none⟩ (.slice A' n c')) g (kC k (.slice A' n c')) 58 ∧ Rw (w3.setCell ⟨g, 10, none⟩ (.slice A' n c')) (g + 1) (kC St.zero (.slice none 0 0)) 58 ∧ Bl w (w3.setCell ⟨g, 10, none⟩ (.slice A' n c')) ∧ (w3.setCell ⟨g, 10, none⟩ (.slice A' n c')).ownsRow (g + 2) 88 13 (.slice A' n c') n (ec k.ents)) := Lib.hid (by
    have r3 := (H2.out.2.1.bel hb3)
    refine ⟨?_, (H2.out.2.2.1.bel hb3).oput (by omega) _ _, (H2.out.2.2.2.next hb3).put hg2 _ _, ?_⟩
    · have := r3.put 10 (.slice A' n c')
      rwa [HX.out.2.2.2.2] at this
    · have hg3 := H2.out.2.2.1.lt
      have ho2 := own_mono (B' := g + 2) ho (by omega)
      refine own_kept ho2 fun j hj => heap_setCell_other w3 ⟨g, 10, none⟩ j _ ?_
      have := (own_lt ho2 hj).2
      show j ≠ g
      omega)
  have c10 := (H2.out.2.1.bel hb3).cell 10 HX.out.2.2.1
  have f10 := (H2.out.2.1.bel hb3).free 10
  clear ho hb3
  go_upto_region 4 with (fail)
  refine forget (fun W => Rw W g (kC k (.slice A' n c')) 58 ∧ Rw W (g + 1) (kC St.zero (.slice none 0 0)) 58 ∧ Bl w W ∧ W.ownsRow (g + 2) 88 13 (.slice A' n c') n (ec k.ents)) H3.out ?_
  intro W4 H4
  have HJ4 := Lib.hid H4
  clear H4 c10 f10 H3 H2 HS
  go_loopw [16] (fun v wr => ∃ i : Nat, i ≤ n ∧ v = .int .i64 (i : Int) ∧ Rw wr g (kC k (.slice A' n c')) 58 ∧ Rw wr (g + 1) (kC St.zero (.slice none 0 0)) 58 ∧ Bl w wr ∧ wr.ownsRow (g + 2) 88 13 (.slice A' n c') n (ec k.ents)) (fun v _ => n - (intOf v).toNat)
  case atStart => exact ⟨0, by omega, rfl, HJ4.out⟩
  case round =>
    obtain ⟨i, hi, rfl, h1, h2, h3, h4⟩ := hrel
    by_cases hlt : i < n
    · have hin : i < k.ents.length := by rw [← Hn.out]; exact hlt
      obtain ⟨b, rfl, hgb, hbl, hth, hrg, _⟩ := own_same13 h4 i hin Hn.out
      have HJ := Lib.hid (And.intro h1 (And.intro h2 (And.intro h3 h4)))
      have HEi := Lib.hid (HE.out i hin)
      have hes := sizeEnt' k.ents[i]
      have heo := (entF k.ents[i]).one
      have hez := (entF k.ents[i]).size
      obtain ⟨Xe, hXe⟩ : ∃ Xe, Xe = entC k.ents[i] := ⟨_, rfl⟩
      rw [← hXe] at hrg hes heo HEi hez
      have HXe := Lib.hid (And.intro hXe (And.intro hrg (And.intro hes (And.intro heo hez))))
      have HN : Hid (Rw (wr.alloc (.cells (entC En.zero) 88)) wr.heap.size (entC En.zero) 88) := Lib.hid (Rw.new wr _ _)
      clear h1 h2 h3 h4 hXe hrg hes heo hez
      go_upto_region 6 with (first
        | (refine wpList_load_rng rfl 88 _ rfl b (i * 13) rfl Xe _ HXe.out.2.1 Tryz.underlying88 rfl HXe.out.2.2.1 ?_)
        | (refine wpList_store_sub rfl 88 _ _ rfl wr.heap.size 0 rfl 88 (entC En.zero) Xe rfl HN.out (by rw [HXe.out.2.2.2.2]; decide) HXe.out.2.2.1 HXe.out.2.2.2.1 ?_))
      refine forget (fun W => Rw W g (kC k (.slice (some ⟨b, 0, none⟩) n c')) 58 ∧ Rw W (g + 1) (kC St.zero (.slice none 0 0)) 58 ∧ Bl w W ∧ W.ownsRow (g + 2) 88 13 (.slice (some ⟨b, 0, none⟩) n c') n (ec k.ents) ∧ Rw W wr.heap.size Xe 88) ?_ ?_
      · have hl := HJ.out.2.1.lt
        refine ⟨(HJ.out.1.alloc _).oputs (by have := HJ.out.1.lt; omega) _ _, (HJ.out.2.1.alloc _).oputs (by omega) _ _, (HJ.out.2.2.1.alloc _).puts HJ.out.2.2.1.le _ _, ?_, HN.out.over (by rw [HXe.out.2.2.2.2]; rfl)⟩
        refine own_kept HJ.out.2.2.2 fun j hj => ?_
        have hj2 := (own_lt HJ.out.2.2.2 hj).1
        exact (setCells_other (by omega) _ _ _).trans (Below.heap_alloc wr _ j (by omega))
      intro W5 H5
      obtain ⟨gb, hgb5⟩ : ∃ gb, gb = wr.heap.size := ⟨_, rfl⟩
      rw [← hgb5] at H5 ⊢
      have HK := Lib.hid H5
      have c10 := H5.1.cell 10 (kC_10 _ _)
      have hez := HXe.out.2.2.2.2
      have hcs := entAt (W := W5) (g := gb) (e := k.ents[i]) (by rw [← HXe.out.1]; exact H5.2.2.2.2)
      have HEl : Hid (∀ W, Calls Tryz.prog 122 #[.agg (entC k.ents[i])] W fun r w' => r = .returned (.agg Xe) ∧ Below W.heap.size W w') := Lib.hid fun W => (HE.out i hin W).mono fun r w' ⟨h1, h2⟩ => ⟨by rw [HXe.out.1]; exact h1, h2⟩
      unfold entC at HEl
      obtain ⟨c0, c1, c2, c3, c4, c5, c6, c7, c8, c9, c11, c12, c13, _⟩ := hcs
      have HF : Hid (∀ w6, Below W5.heap.size W5 w6 → w6.cell? ⟨g, 10, none⟩ = some (.slice (some ⟨b, 0, none⟩) n c') ∧ (storeCells ⟨b, i * 13, none⟩ Xe.toList 0).run Tryz.prog w6 = .ok () (w6.setCells b (i * 13) Xe.toList) ∧
          (Rw (w6.setCells b (i * 13) Xe.toList) g (kC k (.slice (some ⟨b, 0, none⟩) n c')) 58 ∧ Rw (w6.setCells b (i * 13) Xe.toList) (g + 1) (kC St.zero (.slice none 0 0)) 58 ∧ Bl w (w6.setCells b (i * 13) Xe.toList) ∧ (w6.setCells b (i * 13) Xe.toList).ownsRow (g + 2) 88 13 (.slice (some ⟨b, 0, none⟩) n c') n (ec k.ents))) := Lib.hid fun w6 hb => by
        have ho6 := own_kept HK.out.2.2.2.1 fun j hj => hb.block j (own_lt HK.out.2.2.2.1 hj).1
        obtain ⟨b', e, q1, q2, q3, q4, q5⟩ := own_same13 ho6 i hin Hn.out
        injection e with e
        injection e with e
        subst e
        rw [← HXe.out.1] at q5
        refine ⟨(HK.out.1.bel hb).cell 10 (kC_10 _ _), run_storeCells_cells (P := Tryz.prog) b (i * 13) Xe.toList 0 w6 (fun j hj => by simpa using (q3 j (by simp [HXe.out.2.2.2.2] at hj; exact hj)).1) (fun j hj => by simpa using (q3 j (by simp [HXe.out.2.2.2.2] at hj; exact hj)).2) (fun v hv => (Array.all_eq_true_iff_forall_mem.1 HXe.out.2.2.2.1) v (by simpa using hv)), (HK.out.1.bel hb).oputs (by omega) _ _, (HK.out.2.1.bel hb).oputs (by omega) _ _, (HK.out.2.2.1.next hb).puts (by omega) _ _, q5⟩
      clear hgb5 H5 HN HJ
      go_region_with (go_at_call 122; refine (HEl.out _).mono ?_; rintro r w6 ⟨rfl, hb6⟩; obtain ⟨c10b, hst, hfin⟩ := HF.out w6 (bnext (below_drew (Below.refl _ _)) hb6); have HG := Lib.hid hfin; clear hfin hb6)
      all_goals (
        clear c0 c1 c2 c3 c4 c5 c6 c7 c8 c9 c11 c12 c13 c10 c10b hst
        go_wp2_with fail
        go_roundw
        case rel => exact ⟨i + 1, by omega, by go_num, HG.out.1, HG.out.2.1, HG.out.2.2.1, HG.out.2.2.2⟩
        case measure => simp [intOf]; omega)
    · obtain rfl : i = n := by omega
      have HJ := Lib.hid (And.intro h1 (And.intro h2 (And.intro h3 h4)))
      obtain ⟨Z, hZ⟩ : ∃ Z, Z = kC k (.slice A' i c') := ⟨_, rfl⟩
      have HZZ : Hid (Z.size = 11 ∧ Z.all (·.oneCell') = true ∧ (Tryz.prog.info? 58).map (·.size) = some Z.size) := Lib.hid (by rw [hZ]; exact ⟨rfl, kC_one _ _ _ _, sizeKept' _ _⟩)
      rw [← hZ] at HJ
      have hZ2 := Lib.hid hZ
      clear h1 h2 h3 h4 hZ
      go_wp2_with (first
        | (refine wpList_load_sub rfl 58 _ rfl g 0 rfl 58 Z Z (0, 0) _ HJ.out.1 (fun j hj => by rw [Nat.zero_add]) Tryz.underlying58 rfl HZZ.out.2.2 ?_)
        | (refine wpList_store_sub rfl 58 _ _ rfl (g + 1) 0 rfl 58 (kC St.zero (.slice none 0 0)) Z rfl HJ.out.2.1 (by rw [HZZ.out.1]; decide) HZZ.out.2.2 HZZ.out.2.1 ?_))
      refine bodyPost_ret (results_cell_row (P := Tryz.prog) (fn := Tryz.f63) rfl _ _ (g + 1) 58 Z (0, 0) _ rfl (HJ.out.2.1.over (by rw [HZZ.out.1]; rfl)) Tryz.underlying58 rfl HZZ.out.2.2) rfl ?_
      refine ⟨A', c', by rw [hZ2.out], ?_, HJ.out.2.2.1.puts (by omega) _ _⟩
      refine own_mono (own_kept HJ.out.2.2.2 fun j hj => setCells_other (by have := (own_lt HJ.out.2.2.2 hj).2; omega) _ _ _) (by omega)
theorem twin_any (k : St.K) (A : Option Addr) (c : Nat) (w : World) (hA : Lies w A (ec k.ents)) (hz : (∃ b off, A = some ⟨b, off, none⟩) ∨ (A = none ∧ c = 0)) (hs : St.Sec k.snap) (hn : k.ents.length ≤ 1000000) (hb : ∀ e ∈ k.ents, e.body.size ≤ 140737488355328) :
    Calls Tryz.prog 63 #[.agg (kC k (.slice A k.ents.length c))] w fun r w' => ∃ A' c', r = .returned (.agg (kC k (.slice A' k.ents.length c'))) ∧ w'.ownsRow w.heap.size 88 13 (.slice A' k.ents.length c') k.ents.length (ec k.ents) ∧ Below w.heap.size w w' := twin_gen k A c w hA (nilly_of hz) hs hn hb
end Go.Proofs.YtjhbpcecdhdnoaaGreatDoor
