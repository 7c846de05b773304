/-
  wal's write walked: rows appended, and the file synced.
  wal's Add walked.
-/
import Derived.Test.YtjhbpcecdhdnoaaGreatDoorRWrBZ
import Derived.Test.YtjhbpcecdhdnoaaGreatDoorRDkP
set_option linter.unusedSimpArgs false
set_option linter.unusedVariables false
namespace Go.Proofs.YtjhbpcecdhdnoaaGreatDoor
open Go.RowKit
namespace Wl
def cost : List (List UInt8) → Nat
  | [] => 0
  | t :: T => 60 + t.length + cost T
theorem cost_drop : ∀ (T : List (List UInt8)) (k : Nat) (h : k < T.length), cost (T.drop k) = 60 + T[k].length + cost (T.drop (k + 1))
  | t :: T, 0, _ => rfl
  | t :: T, k + 1, h => by
    show cost (T.drop k) = _
    rw [cost_drop T k (by simpa using h)]; rfl
theorem row_size_le {t : List UInt8} (h : t.length < Nm.top) : (ba (row t)).size ≤ t.length + 14 := by
  rw [ba_size]
  unfold row
  have := grp_len t.length h
  simp [Nm.wid_length]; omega
theorem lay_drop (d : Dk.D) (n : ByteArray) (T : List (List UInt8)) (k : Nat) (h : k < T.length) :
    lay d n (T.drop k) = if (Dk.append d n (ba (row T[k]))).1 = .ok then lay (Dk.append d n (ba (row T[k]))).2 n (T.drop (k + 1)) else Dk.append d n (ba (row T[k])) := by
  rw [List.drop_eq_getElem_cons h]
  rfl
end Wl
def bsc (T : List (List UInt8)) : List Value := sc (T.map Wl.ba)
theorem eno_ok (e : Dk.E) : (eno e == 0) = decide (e = .ok) := by cases e <;> simp [eno]
section
variable {At : DkAt}
set_option maxRecDepth 100000 in
set_option maxHeartbeats 4000000 in
theorem logWrite_any (K : DiskK At) (HNm : NameSays) (W : World) (q p n b : Nat) (S : Nat → Prop) (d : Dk.D) (T : List (List UInt8)) (B : Option Addr) (cb : Nat) (hE : EnvT W) (hn : n < Nm.top) (hL : LogAt W q p n b) (hA : At W p S d) (hq : ¬ S q)
    (hT : Lies W B (bsc T)) (hB : Away S B (bsc T)) (hl : T.length ≤ 2000000) (hc : Dk.load d + Wl.cost T ≤ 100000000) :
    Calls Tryz.prog 92 #[.pointer (some ⟨q, 0, none⟩), .slice B T.length cb] W fun e w' => e = .returned (.int .i64 (eno (Wl.lay d (Wl.name n) T).1)) ∧ Now At W w' p S (Wl.lay d (Wl.name n) T).2 := by
  have HN := Lib.hid (HNm n W hn hE)
  have cn := hL.cn
  obtain ⟨nm, hnm⟩ : ∃ nm, nm = Wl.name n := ⟨_, rfl⟩
  have hns : nm.size ≤ 24 := by rw [hnm]; exact (Wl.name_size hn).2
  rw [← hnm] at HN ⊢
  have HL := Lib.hid hL
  have HT := Lib.hid (And.intro hT hB)
  have HK := Lib.hid K
  have HAt := Lib.hid hA
  have HC := Lib.hid hc
  have Hq := Lib.hid hq
  clear hnm hL hT hB K hA hE hn HNm hc hq
  go_enter Tryz.func92, Tryz.ntmps92
  go_wp2_with fail
  refine HN.out.mono ?_
  rintro e w1 ⟨rfl, hb1⟩
  have HAt1 := Lib.hid (HK.out.now HAt.out hb1)
  clear hb1
  go_wp2_with fail
  go_loopw [16] (fun i wr => ∃ (k : Nat) (D : Dk.D), k ≤ T.length ∧ i = .int .i64 (k : Int) ∧ Now At W wr p S D ∧ Wl.lay d nm T = Wl.lay D nm (T.drop k) ∧ Dk.load D + Wl.cost (T.drop k) ≤ 100000000) (fun i _ => T.length - (intOf i).toNat)
  case atStart => exact ⟨0, d, Nat.zero_le _, rfl, HAt1.out, by rw [List.drop_zero], by rw [List.drop_zero]; exact HC.out⟩
  case round =>
    obtain ⟨k, D, hk, rfl, hn, hly, hld⟩ := hrel
    have c0 := (HL.out.ko hn.ko Hq.out).c0
    by_cases hlt : k < T.length
    · obtain ⟨t, ht⟩ : ∃ t, t = T[k] := ⟨_, rfl⟩
      obtain ⟨s, hs⟩ : ∃ s, s = Wl.ba t := ⟨_, rfl⟩
      have hcs := Wl.cost_drop T k hlt
      rw [← ht] at hcs
      have hss : s.size = t.length := by rw [hs, Wl.ba_size]
      have htt : t.length < Nm.top := by unfold Nm.top; omega
      have hrs := Wl.row_size_le htt
      have hsd : s.data.toList = t := by rw [hs, Wl.ba_data]
      have hlies := (HT.out.1).ko HT.out.2 hn.ko
      have hcell : ∃ bb oo, B = some ⟨bb, oo, none⟩ ∧ wr.cell? ⟨bb, oo + k, none⟩ = some (.string s) := by
        rcases hlies with h | ⟨bb, oo, rfl, _, hc⟩
        · exfalso
          have := congrArg List.length h
          simp [bsc, sc] at this; simp [this] at hlt
        · exact ⟨bb, oo, rfl, hc k _ (by simp [bsc, sc, hlt, hs, ht])⟩
      obtain ⟨bb, oo, rfl, hcell⟩ := hcell
      have HR : Hid (∀ W2, Below wr.heap.size wr W2 → Calls Tryz.prog 143 #[.pointer (some ⟨q, 1, none⟩), .string s] W2 fun e w' => e = .returned (.string (Wl.ba (Wl.row t))) ∧ Below W2.heap.size W2 w') := Lib.hid fun W2 hb => by
        have := row_any W2 q 1 s ((HL.out.ko hn.ko Hq.out).below hb).tab (by omega)
        rw [hsd] at this
        exact this
      obtain ⟨r, hr⟩ : ∃ r, r = Wl.ba (Wl.row t) := ⟨_, rfl⟩
      rw [← hr] at HR hrs
      have hld2 : Dk.load D + 2 + nm.size + r.size ≤ 100000000 := by omega
      have HAp : Hid (∀ W2, Below wr.heap.size wr W2 → Calls Tryz.prog 28 #[.pointer (some ⟨p, 0, none⟩), .string nm, .string r] W2 fun e w' => e = .returned (.int .i64 (eno (Dk.append D nm r).1)) ∧ Now At W w' p S (Dk.append D nm r).2) := Lib.hid fun W2 hb => HK.out.appendN (HK.out.more hn hb) nm r hld2
      have hinv : Dk.Inv D := by obtain ⟨⟨S', h1, _⟩, _⟩ := hn; exact HK.out.inv h1
      have HLd : Hid (Dk.load (Dk.append D nm r).2 + Wl.cost (T.drop (k + 1)) ≤ 100000000) := Lib.hid (by have := Dk.load_append hinv nm r; omega)
      have HLy : Hid (Wl.lay d nm T = if (Dk.append D nm r).1 = .ok then Wl.lay (Dk.append D nm r).2 nm (T.drop (k + 1)) else Dk.append D nm r) := Lib.hid (by rw [hly, Wl.lay_drop D nm T k hlt, hr, ht])
      obtain ⟨E, hE⟩ : ∃ E, E = Dk.append D nm r := ⟨_, rfl⟩
      rw [← hE] at HAp HLd HLy
      have Hc0 := Lib.hid (fun W2 (hb : Below wr.heap.size wr W2) => later hb c0)
      clear hly hld hcs hrs hsd hlies hr hld2 hinv hE ht hs hss htt hn
      obtain ⟨ev, hev⟩ : ∃ ev, ev = eno E.1 := ⟨_, rfl⟩
      rw [← hev] at HAp
      have Hev := Lib.hid hev
      clear hev
      go_wp2_with fail
      go_region_with (first | (go_at_call 143; refine (HR.out _ (below_drew (Below.refl _ _))).mono ?_; rintro e w2 ⟨rfl, hb2⟩; have H2 := Lib.hid (bnext (below_drew (Below.refl _ wr)) hb2); have c02 := Hc0.out w2 H2.out; clear hb2) | (go_at_call 28; refine (HAp.out _ H2.out).mono ?_; rintro e w3 ⟨rfl, hn3⟩; have H3 := Lib.hid hn3; clear hn3))
      all_goals (
        clear c02 H2 HAp HR Hc0 hcell
        by_cases hz : ev = 0
        · have z1 : (ev != 0) = false := by simp [hz]
          have z2 : (ev == 0) = true := by simp [hz]
          have z3 : (ev = 0) = True := by simp [hz]
          have hok : E.1 = .ok := by
            have h1 := eno_ok E.1
            rw [← Hev.out, z2] at h1
            simpa using h1.symm
          have Hok := Lib.hid hok
          clear hz hok
          go_wp2_with fail
          go_roundw
          case rel => exact ⟨k + 1, E.2, by omega, by go_num, H3.out, by rw [HLy.out, if_pos Hok.out], HLd.out⟩
          case measure => simp [intOf]; omega
        · have z1 : (ev != 0) = true := by simp [hz]
          have z2 : (ev == 0) = false := by simp [hz]
          have z3 : (ev = 0) = False := by simp [hz]
          have hok : E.1 ≠ .ok := fun h => by
            have h1 := eno_ok E.1
            rw [← Hev.out, z2, h] at h1
            simp at h1
          have Hok := Lib.hid hok
          clear hz hok
          go_wp2_with fail
          go_ret
          rw [HLy.out, if_neg Hok.out, ← Hev.out]
          exact ⟨rfl, H3.out⟩)
    · obtain rfl : k = T.length := by omega
      have HSy := Lib.hid (HK.out.syncN hn nm (by omega))
      have HLy : Hid (Wl.lay d nm T = Dk.sync D nm) := Lib.hid (by rw [hly, List.drop_length]; rfl)
      clear hly hld hn
      go_wp2_with fail
      refine HSy.out.mono ?_
      rintro e w2 ⟨rfl, hn2⟩
      go_wp2_with fail
      go_ret
      rw [HLy.out]
      exact ⟨rfl, hn2⟩
end
end Go.Proofs.YtjhbpcecdhdnoaaGreatDoor
namespace Go.Proofs.YtjhbpcecdhdnoaaGreatDoor
open Go.RowKit
namespace Wl
structure Ok (l : List R) : Prop where
  fits : ∀ r ∈ l, Fits r ∧ r.ent.body.size ≤ 1000000
  len : l.length ≤ 1000000
def beh (e : Dk.E) (b k : Nat) : Nat := if e = .ok then b + k else b
theorem beh_ok (b k : Nat) : beh .ok b k = b + k := rfl
theorem beh_no {e : Dk.E} (h : e ≠ .ok) (b k : Nat) : beh e b k = b := by unfold beh; rw [if_neg h]
end Wl
theorem tsc_bsc (l : List Wl.R) : tsc l = bsc (l.map Wl.text) := by
  unfold tsc bsc
  rw [List.map_map]; rfl
structure Logged (At : DkAt) (w W : World) (p q n b : Nat) (S : Nat → Prop) (d : Dk.D) : Prop where
  ex : ∃ S', At W p S' d ∧ (∀ k, S' k → S k ∨ w.heap.size ≤ k) ∧ ¬ S' q
  log : LogAt W q p n b
  ko : Ko (fun k => S k ∨ k = q) w W
section
variable {At : DkAt}
theorem eno_ne {e : Dk.E} (h : e ≠ .ok) : (eno e != 0) = true ∧ (eno e == 0) = false ∧ (eno e = 0) = False := by
  cases e <;> simp [eno] at h ⊢
set_option maxRecDepth 100000 in
set_option maxHeartbeats 1000000 in
theorem add_any (K : DiskK At) (HNm : NameSays) (W : World) (q p n b : Nat) (S : Nat → Prop) (d : Dk.D) (l : List Wl.R) (A : Option Addr) (cap : Nat) (hE : EnvT W) (hn : n < Nm.top) (hL : LogAt W q p n b) (hA : At W p S d) (hq : ¬ S q)
    (hlies : Lies W A (wrs l)) (hl : Wl.Ok l) (hc : Dk.load d + Wl.cost (l.map Wl.text) ≤ 100000000) (hb : b ≤ 1000000000) :
    Calls Tryz.prog 48 #[.pointer (some ⟨q, 0, none⟩), .slice A l.length cap] W fun e w' => e = .returned (.int .i64 (eno (Wl.add d n l).1)) ∧ Logged At W w' p q n (Wl.beh (Wl.add d n l).1 b l.length) S (Wl.add d n l).2 := by
  have HB := Lib.hid (isBegun_any W q p n b hL)
  have HD := Lib.hid (K.down W p S d hA)
  have c0 := hL.c0
  have hql := hL.lt
  have HL0 : ∀ {W'}, Below W.heap.size W W' → Logged At W W' p q n b S d := fun hb => ⟨⟨S, K.below hA hb, fun _ h => .inl h, hq⟩, hL.below hb, Ko.bel hb⟩
  rcases ho : d.off with _ | _
  case true =>
    have E : Hid (Wl.add d n l = (.down, d)) := Lib.hid (by unfold Wl.add; rw [ho]; rfl)
    have HL := Lib.hid (fun W' hb => HL0 (W' := W') hb)
    rw [ho] at HD
    clear HL0 hA hL hlies K HNm hE hn ho hl hc
    go_enter Tryz.func48, Tryz.ntmps48
    go_wp2_with fail
    refine HB.out.mono ?_
    rintro e w1 ⟨rfl, rfl⟩
    go_wp2_with fail
    refine HD.out.mono ?_
    rintro e w1 ⟨rfl, hb1⟩
    go_wp2_with fail
    go_ret
    rw [E.out, Wl.beh_no (fun h => by cases h)]
    exact ⟨rfl, HL.out _ hb1⟩
  rw [ho] at HD
  have HT := Lib.hid (fun W2 (hb2 : Below W.heap.size W W2) => recordTexts_any l A cap W2 (hlies.below hb2) hl.len hl.fits)
  rcases hr : l.all Wl.right with _ | _
  · have E : Hid (Wl.add d n l = (.arg, d)) := Lib.hid (by unfold Wl.add; rw [ho, hr]; rfl)
    have HL := Lib.hid (fun W' hb => HL0 (W' := W') hb)
    unfold WTexts at HT
    rw [hr] at HT
    clear HL0 hA hL hlies K HNm hE hn ho hl hc
    go_enter Tryz.func48, Tryz.ntmps48
    go_wp2_with fail
    refine HB.out.mono ?_
    rintro e w1 ⟨rfl, rfl⟩
    go_wp2_with fail
    refine HD.out.mono ?_
    rintro e w1 ⟨rfl, hb1⟩
    have H1 := Lib.hid hb1
    clear hb1
    go_wp2_with fail
    refine (HT.out _ H1.out).mono ?_
    rintro e w2 ⟨he, hb2⟩
    obtain rfl : e = .returned (.tuple #[.slice none 0 0, .bool false]) := by simpa using he
    have H2 := Lib.hid (bnext H1.out hb2)
    clear hb2 he
    go_wp2_with fail
    go_ret
    rw [E.out, Wl.beh_no (fun h => by cases h)]
    exact ⟨rfl, HL.out _ H2.out⟩
  have HT2 : Hid (∀ W2, Below W.heap.size W W2 → Calls Tryz.prog 91 #[.slice A l.length cap] W2 fun e w' => ∃ B cb, e = .returned (.tuple #[.slice B l.length cb, .bool true]) ∧ Below W.heap.size W w' ∧ Lies w' B (bsc (l.map Wl.text)) ∧ ∀ bb oo, B = some ⟨bb, oo, none⟩ → W.heap.size ≤ bb) := Lib.hid fun W2 hb2 => by
    refine (HT.out W2 hb2).mono ?_
    rintro e w' ⟨he, hb3⟩
    rw [hr] at he
    obtain ⟨B, cb, rfl, ho3⟩ := (by simpa using he : ∃ B cb, e = .returned (.tuple #[.slice B l.length cb, .bool true]) ∧ w'.ownsRow W2.heap.size 9 1 (.slice B l.length cb) l.length (tsc l))
    refine ⟨B, cb, rfl, bnext hb2 hb3, by rw [← tsc_bsc]; exact lies_own ho3, fun bb oo hB => ?_⟩
    obtain ⟨A', c', hv, hx⟩ := own_slice ho3
    injection hv with h1 h2 h3
    subst h1
    exact Nat.le_trans hb2.size (hx bb oo hB).1
  clear HT
  by_cases h0 : l.length = 0
  · obtain rfl := List.eq_nil_of_length_eq_zero h0
    have E : Hid (Wl.add d n [] = (.ok, d)) := Lib.hid (Wl.add_nil ho n)
    simp only [List.length_nil] at HT2 ⊢
    have HL := Lib.hid (fun W' hb => HL0 (W' := W') hb)
    clear HL0 hA hL hlies K HNm hE hn ho hl hc hr
    go_enter Tryz.func48, Tryz.ntmps48
    go_wp2_with fail
    refine HB.out.mono ?_
    rintro e w1 ⟨rfl, rfl⟩
    go_wp2_with fail
    refine HD.out.mono ?_
    rintro e w1 ⟨rfl, hb1⟩
    have H1 := Lib.hid hb1
    clear hb1
    go_wp2_with fail
    refine (HT2.out _ H1.out).mono ?_
    rintro e w2 ⟨B, cb, rfl, hb2, _, _⟩
    have H2 := Lib.hid hb2
    clear hb2
    go_wp2_with fail
    go_ret
    rw [E.out]
    exact ⟨rfl, HL.out _ H2.out⟩
  have hadd : Wl.add d n l = Wl.lay d (Wl.name n) (l.map Wl.text) := by
    unfold Wl.add
    rw [ho, hr]
    have : l.isEmpty = false := by cases l <;> simp_all
    rw [this]; rfl
  have hlen := hl.len
  have hSq : ∀ k, S k → k < W.heap.size := fun k hk => K.lt hA k hk
  have HWr : Hid (∀ (W2 : World) (B : Option Addr) (cb : Nat), Below W.heap.size W W2 → Lies W2 B (bsc (l.map Wl.text)) → (∀ bb oo, B = some ⟨bb, oo, none⟩ → W.heap.size ≤ bb) → Calls Tryz.prog 92 #[.pointer (some ⟨q, 0, none⟩), .slice B l.length cb] W2 fun e w' => e = .returned (.int .i64 (eno (Wl.add d n l).1)) ∧ Logged At W w' p q n b S (Wl.add d n l).2) := Lib.hid fun W2 B cb hb2 h3 h4 => by
    have h5 := logWrite_any K HNm W2 q p n b S d (l.map Wl.text) B cb (hE.below hb2 (Nat.le_refl _)) hn (hL.below hb2) (K.below hA hb2) hq h3 (fun bb oo _ hB hs => by have := hSq bb hs; have := h4 bb oo hB; omega) (by rw [List.length_map]; omega) hc
    rw [List.length_map, ← hadd] at h5
    refine h5.mono ?_
    rintro e w' ⟨rfl, ⟨S', h6, h7⟩, h8⟩
    refine ⟨rfl, ⟨⟨S', h6, fun k hk => (h7 k hk).elim .inl fun h => .inr (Nat.le_trans hb2.size h), fun hk => (h7 q hk).elim hq fun h => by have := hb2.size; omega⟩, (hL.below hb2).ko h8 hq, ?_⟩⟩
    exact (Ko.bel hb2).trans (T := S) h8 (fun k hk => .inl (.inl hk))
  obtain ⟨R, hR⟩ : ∃ R, R = Wl.add d n l := ⟨_, rfl⟩
  rw [← hR] at HWr ⊢
  have K2 := Lib.hid K
  have hne : ((l.length : Int) == 0) = false := beq_eq_false_iff_ne.2 (by omega)
  have hne2 : ((l.length : Int) = 0) = False := eq_false (by omega)
  clear HL0 hA hL hlies K HNm hE hn ho hl hc hr hadd hR hSq h0
  by_cases hok : R.1 = .ok
  · have HOk := Lib.hid hok
    rw [hok] at HWr
    simp only [eno] at HWr
    clear hok
    go_enter Tryz.func48, Tryz.ntmps48
    go_wp2_with fail
    refine HB.out.mono ?_
    rintro e w1 ⟨rfl, rfl⟩
    go_wp2_with fail
    refine HD.out.mono ?_
    rintro e w1 ⟨rfl, hb1⟩
    have H1 := Lib.hid hb1
    clear hb1
    go_wp2_with fail
    refine (HT2.out _ H1.out).mono ?_
    rintro e w2 ⟨B, cb, rfl, hb2, h3, h4⟩
    have H2 := Lib.hid (And.intro hb2 (And.intro h3 h4))
    clear hb2 h3 h4
    go_wp2_with fail
    refine (HWr.out _ B cb H2.out.1 H2.out.2.1 H2.out.2.2).mono ?_
    rintro e w3 ⟨rfl, hlg⟩
    have HG := Lib.hid hlg
    have cb3 := hlg.log.cb
    have fr3 := hlg.log.free 258
    clear hlg
    go_wp2_with fail
    go_ret
    rw [HOk.out, Wl.beh_ok]
    refine ⟨rfl, ?_⟩
    obtain ⟨⟨S', h6, h7, h8⟩, h9, h10⟩ := HG.out
    have e1 : ((b : Int) + (l.length : Int)) = ((b + l.length : Nat) : Int) := by omega
    have hput := h9.put (b + l.length)
    have hkq : Ko (fun k => k = q) w3 (w3.setCell ⟨q, 258, none⟩ (.int .i64 ((b + l.length : Nat) : Int))) := ⟨rfl, rfl, rfl, by simp, fun k _ hk => heap_setCell_other _ ⟨q, 258, none⟩ k _ hk⟩
    rw [e1]
    exact ⟨⟨S', K2.out.stays h6 fun k hk => heap_setCell_other _ ⟨q, 258, none⟩ k _ fun he => h8 (by have e2 : k = q := he; rw [← e2]; exact hk), h7, h8⟩, hput, h10.trans hkq fun k hk => .inl (.inr hk)⟩
  · obtain ⟨z1, z2, z3⟩ := eno_ne hok
    have HOk := Lib.hid hok
    obtain ⟨ev, hev⟩ : ∃ ev, ev = eno R.1 := ⟨_, rfl⟩
    rw [← hev] at z1 z2 z3 HWr
    have Hev := Lib.hid hev
    clear hok hev
    go_enter Tryz.func48, Tryz.ntmps48
    go_wp2_with fail
    refine HB.out.mono ?_
    rintro e w1 ⟨rfl, rfl⟩
    go_wp2_with fail
    refine HD.out.mono ?_
    rintro e w1 ⟨rfl, hb1⟩
    have H1 := Lib.hid hb1
    clear hb1
    go_wp2_with fail
    refine (HT2.out _ H1.out).mono ?_
    rintro e w2 ⟨B, cb, rfl, hb2, h3, h4⟩
    have H2 := Lib.hid (And.intro hb2 (And.intro h3 h4))
    clear hb2 h3 h4
    go_wp2_with fail
    refine (HWr.out _ B cb H2.out.1 H2.out.2.1 H2.out.2.2).mono ?_
    rintro e w3 ⟨rfl, hlg⟩
    have HG := Lib.hid hlg
    clear hlg
    go_wp2_with fail
    go_ret
    rw [Wl.beh_no HOk.out, ← Hev.out]
    exact ⟨rfl, HG.out⟩
end
end Go.Proofs.YtjhbpcecdhdnoaaGreatDoor
