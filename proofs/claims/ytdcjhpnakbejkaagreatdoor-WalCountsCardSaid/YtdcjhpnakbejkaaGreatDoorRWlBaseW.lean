/-
  WalBase walked.
-/
import Derived.Test.YtdcjhpnakbejkaaGreatDoorRWwX
import Derived.Test.YtdcjhpnakbejkaaGreatDoorRWwRight
import Derived.Test.YtdcjhpnakbejkaaGreatDoorRWrB
import Derived.Test.YtdcjhpnakbejkaaGreatDoorRWrS
import Derived.Test.YtdcjhpnakbejkaaGreatDoorRWlSt
import Derived.Test.YtdcjhpnakbejkaaGreatDoorRDkGreat
import Derived.Test.YtdcjhpnakbejkaaGreatDoorROpK
import Derived.Test.YtdcjhpnakbejkaaGreatDoorRWwNumb
set_option linter.unusedSimpArgs false
set_option linter.unusedVariables false
namespace Go.Proofs.YtdcjhpnakbejkaaGreatDoor
open Go.RowKit
section
variable {At : DkAt}
theorem headed_any (K : DiskK At) (W : World) (p : Nat) (S : Nat → Prop) (d : Dk.D) (hA : At W p S d) (hE : EnvT W) :
    Calls Tryz.prog 40 #[.pointer (some ⟨p, 0, none⟩)] W fun e w' => e = .returned (.bool (decide (0 < (Dk.records d (Wl.name 7)).1))) ∧ Below W.heap.size W w' := by
  have HN := Lib.hid (nameSays 7 W (by decide) hE)
  have hz : (Wl.name 7).size ≤ 100000000 := by decide +kernel
  have HR : Hid (∀ W', Below W.heap.size W W' → Calls Tryz.prog 95 #[.pointer (some ⟨p, 0, none⟩), .string (Wl.name 7)] W' fun e w' => e = .returned (.tuple #[.int .i64 ((Dk.records d (Wl.name 7)).1 : Int), .int .i64 ((Dk.records d (Wl.name 7)).2 : Int)]) ∧ Below W'.heap.size W' w') := Lib.hid fun W' hb => K.records W' p S d _ (K.below hA hb) hz
  generalize Wl.name 7 = nm at HN HR ⊢
  generalize Dk.records d nm = x at HR ⊢
  obtain ⟨m, k⟩ := x
  have hd : decide ((0 : Int) < (m : Int)) = decide (0 < m) := by simp
  clear hA hE K hz
  go_enter Tryz.func40, Tryz.ntmps40
  go_wp2_with fail
  refine HN.out.mono ?_
  rintro e w1 ⟨rfl, hb1⟩
  have H1 := Lib.hid hb1
  clear hb1
  go_wp2_with fail
  refine (HR.out _ H1.out).mono ?_
  rintro e w2 ⟨rfl, hb2⟩
  go_wp2_with fail
  go_ret
  exact ⟨by first | rfl | (rw [← hd]; rfl), bnext H1.out hb2⟩
theorem own_base {w : World} {base : Nat} {e : TypeId} {s : Nat} {A : Option Addr} {n c : Nat} {xs : List Value} (h : w.ownsRow base e s (.slice A n c) n xs) : ∀ b off, A = some ⟨b, off, none⟩ → base ≤ b := by
  intro b off hA
  rcases h.2 with ⟨hv, _⟩ | ⟨g, cap, cur, hv, hg, _⟩
  · injection hv with h1
    rw [h1] at hA; cases hA
  · injection hv with h1
    rw [h1] at hA
    injection hA with hA
    injection hA with h2
    omega
theorem lies_pre {w : World} {A : Option Addr} {xs ys : List Value} (h : Lies w A xs) (hp : ys <+: xs) : Lies w A ys := by
  obtain ⟨t, rfl⟩ := hp
  rcases h with h | ⟨b, off, rfl, hb, hc⟩
  · exact .inl (List.append_eq_nil_iff.1 h).1
  · refine .inr ⟨b, off, rfl, hb, fun i u hu => hc i u ?_⟩
    rw [List.getElem?_append_left (List.getElem?_eq_some_iff.1 hu).1]; exact hu
theorem base_cases (f sn : Nat) (R : List Wl.R) (hg : Wl.Good R) :
    (∃ d', Wl.begins (Dk.fuse Dk.D.new ((f % 50 : Nat) : Int)) 7 sn R = (.of .ok, d') ∧ (f % 50 = 0 ∨ R.length + 2 < f % 50)) ∨
    ∃ d', Wl.begins (Dk.fuse Dk.D.new ((f % 50 : Nat) : Int)) 7 sn R = (.of .down, d') ∧ Wl.Was d' (Wl.name 7) ((Wl.segT R.length sn R).take (f % 50 - 1)) 0 ∧ (∀ m, m ≠ Wl.name 7 → Dk.find d'.files m = none) := by
  have hl : (Dk.fuse Dk.D.new ((f % 50 : Nat) : Int)).left = f % 50 := by show ((f % 50 : Nat) : Int).toNat = _; omega
  have hn : ∀ m, Dk.find (Dk.fuse Dk.D.new ((f % 50 : Nat) : Int)).files m = none := fun m => rfl
  by_cases h : f % 50 = 0 ∨ R.length + 2 < f % 50
  · obtain ⟨d', h1, _⟩ := Wl.begins_ok (snap := sn) (n := 7) rfl (hn _) (by decide) hg (by rw [hl]; exact h)
    exact .inl ⟨d', h1, h⟩
  · obtain ⟨d', h1, h2, _, _, h3⟩ := Wl.begins_down (snap := sn) (n := 7) rfl (hn _) (by decide) hg (by rw [hl]; omega) (by rw [hl]; omega)
    rw [hl] at h2
    exact .inr ⟨d', h1, h2, fun m hm => (h3 m hm).trans (hn m)⟩
set_option maxRecDepth 100000 in
set_option maxHeartbeats 8000000 in
theorem walBase_nat (K : DiskK At) (w : World) (sn f : Nat) (hsn : sn < Nm.top) (hf : f < 256) (l : List Wl.R) (A : Option Addr) (ca : Nat) (hA : Lies w A (wrs l)) (hfit : ∀ r ∈ l, Wl.Fits r) (hlen : l.length ≤ maxLen)
    (ks ts : List Int) (KA TA : Option Addr) (kc tc : Nat) (gc : GivenC w ks ts KA TA) (hE : EnvT w) :
    Calls Tryz.prog 7 #[.int .u64 (sn : Int), .slice A l.length ca, .int .u8 (f : Int), .agg #[.slice KA ks.length kc, .slice TA ts.length tc]] w fun e w' => e = .returned (.bool true) ∧ Below w.heap.size w w' := by
  obtain ⟨X, hX⟩ : ∃ X : Array Value, X = #[.slice KA ks.length kc, .slice TA ts.length tc] := ⟨_, rfl⟩
  obtain ⟨w0, hw0⟩ : ∃ w0, w0 = w.alloc (.cells X 45) := ⟨_, rfl⟩
  have hb0 : Below w.heap.size w w0 := by rw [hw0]; exact bnew (Below.refl _ _) _
  have HW0 := Lib.hid hw0
  have HB0 := Lib.hid hb0
  have hE0 := hE.below hb0 (Nat.le_refl _)
  have hA0 := hA.below hb0
  have gc0 := gc.below hb0
  have HEn := Lib.hid (fun W' (hb : Below w0.heap.size w0 W') => hE0.below hb (Nat.le_refl _))
  have HGr := Lib.hid (fun W (hb : Below w0.heap.size w0 W) => greatRecs_any l A ca W (hA0.below hb) hlen)
  have HGC := Lib.hid (fun W => greatC_any ks ts KA TA kc tc W)
  have HAw := Lib.hid (fun W hb => walAwake_any K W (HEn.out W hb))
  have HR : Hid (∀ W, Below w0.heap.size w0 W → W.heap[w.heap.size]? = some (.cells X 45 (0, 0))) := Lib.hid fun W hb => by
    rw [hw0] at hb; exact (hb.block _ (by simp)).trans (heap_alloc_new w _)
  have HXX : Hid (∀ j, j < X.size → X[0 + j]? = X[j]?) := Lib.hid fun j _ => by rw [Nat.zero_add]
  have HZ : Hid ((Tryz.prog.info? 45).map (·.size) = some X.size) := Lib.hid (by subst hX; exact sizeCrash)
  have hx2 : X.size = 2 := by subst hX; rfl
  rw [← hX] at HGC ⊢
  rcases hgr : Wl.great l with _ | _
  case true =>
    rw [hgr] at HGr
    clear hgr hA hfit hlen K gc hE hX hw0 hb0 hE0 hA0 gc0
    go_enter Tryz.func7, Tryz.ntmps7
    go_wp2_with fail
    rw [← HW0.out]
    refine (HGr.out _ (Below.refl _ _)).mono ?_
    rintro e w1 ⟨rfl, h1⟩
    have H1 := Lib.hid h1
    clear h1
    go_wp2_with fail
    refine (HAw.out _ H1.out).mono ?_
    rintro e w2 ⟨rfl, h2⟩
    go_wp2_with fail
    go_ret
    exact ⟨rfl, bnext HB0.out (bnext H1.out h2)⟩
  rw [hgr] at HGr
  rcases hgr3 : Dk.bigC ks ts with _ | _
  case true =>
    rw [hgr3] at HGC
    clear hgr hgr3 hA hfit hlen K gc hE hX hw0 hb0 hE0 hA0 gc0
    go_enter Tryz.func7, Tryz.ntmps7
    go_wp2_with fail
    rw [← HW0.out]
    refine (HGr.out _ (Below.refl _ _)).mono ?_
    rintro e w1 ⟨rfl, h1⟩
    have H1 := Lib.hid h1
    clear h1
    go_wp2_with (refine wpList_load_sub rfl 45 _ rfl w.heap.size 0 rfl 45 X X (0, 0) _ (HR.out _ H1.out) HXX.out Tryz.underlying45 rfl HZ.out ?_)
    refine (HGC.out _).mono ?_
    rintro e w3 ⟨rfl, h3⟩
    have H3 := Lib.hid (bnext H1.out h3)
    clear h3
    go_wp2_with fail
    refine (HAw.out _ H3.out).mono ?_
    rintro e w4 ⟨rfl, h4⟩
    go_wp2_with fail
    go_ret
    exact ⟨rfl, bnext HB0.out (bnext H3.out h4)⟩
  rw [hgr3] at HGC
  obtain ⟨hgood, hok, hcost, hl40, hl0⟩ := Wl.right_good hfit hgr
  obtain ⟨R, hRl⟩ : ∃ R, R = l.filter Wl.right := ⟨_, rfl⟩
  have HRt := Lib.hid (fun W (hb : Below w0.heap.size w0 W) => right_any8 l A ca W (hA0.below hb) (by omega))
  rw [← hRl] at hgood hok hcost hl40 HRt
  have HC := Lib.hid (base_cases f sn R hgood)
  obtain ⟨d0, hd0⟩ : ∃ d0, d0 = Dk.fuse Dk.D.new ((f % 50 : Nat) : Int) := ⟨_, rfl⟩
  have hload0 : Dk.load d0 = 0 := by rw [hd0]; rfl
  have HF : Hid (∀ W p S, At W p S Dk.D.new → Calls Tryz.prog 36 #[.pointer (some ⟨p, 0, none⟩), .int .i64 ((f : Int) % 50)] W fun e w' => e = .returned (.tuple #[]) ∧ Now At W w' p S d0) := Lib.hid fun W p S h => by
    have e : (f : Int) % 50 = ((f % 50 : Nat) : Int) := by omega
    rw [hd0, e]; exact K.fuse W p S _ _ h ⟨by omega, by omega⟩
  have HBg : Hid (∀ W p tb S B cb, Below w0.heap.size w0 W → TabAt W tb → At W p S d0 → Lies W B (wrs R) → Calls Tryz.prog 27 #[.pointer (some ⟨p, 0, none⟩), .pointer (some ⟨tb, 0, none⟩), .int .u64 7, .int .u64 (sn : Int), .slice B R.length cb] W (WBegin At W p 7 S (Wl.begins d0 7 sn R))) := Lib.hid fun W p tb S B cb hb hT hAt hB =>
    begin_any K nameSays W p tb 7 sn S d0 R B cb (HEn.out W hb) (by decide) hsn hT hAt hB hok (by omega)
  rw [← hd0] at HC
  have HCr : Hid (∀ W p S D, Below w0.heap.size w0 W → (∀ k, S k → w0.heap.size ≤ k) → At W p S D → Calls Tryz.prog 37 #[.pointer (some ⟨p, 0, none⟩), .agg X] W fun e w' => e = .returned (.tuple #[]) ∧ Now At W w' p S (Dk.crash D ks ts)) := Lib.hid fun W p S D hb hS h => by
    rw [hX]
    exact K.crashN hb hS (Now.start h) ks ts KA TA kc tc gc0
  have HRg : Hid (Wl.Good R ∧ R.length ≤ 40) := Lib.hid ⟨hgood, hl40⟩
  have HK := Lib.hid K
  have hzt := zeroTable
  have hst := storeTabA
  have hsz := tabA_size
  have HI := Lib.hid (And.intro hf hsn)
  clear hgr hgr3 hA hfit hlen K gc hE hX hw0 hgood hok hcost hl40 hl0 hRl hd0 hload0 hf hsn hb0 hE0 hA0 gc0
  go_enter Tryz.func7, Tryz.ntmps7
  go_wp2_with fail
  rw [← HW0.out]
  refine (HGr.out _ (Below.refl _ _)).mono ?_
  rintro e w1 ⟨rfl, h1⟩
  have H1 := Lib.hid h1
  clear h1
  go_wp2_with (refine wpList_load_sub rfl 45 _ rfl w.heap.size 0 rfl 45 X X (0, 0) _ (HR.out _ H1.out) HXX.out Tryz.underlying45 rfl HZ.out ?_)
  refine (HGC.out _).mono ?_
  rintro e w3 ⟨rfl, h3⟩
  have H3 := Lib.hid (bnext H1.out h3)
  clear h3 H1
  go_wp2_with fail
  refine (HK.out.new _).mono ?_
  rintro e w4 ⟨p, S, rfl, a1, a2, a3⟩
  have H4 := Lib.hid (And.intro a1 (And.intro a2 (bnext H3.out a3)))
  clear a1 a2 a3
  go_wp2_with fail
  refine (make_any _).mono ?_
  rintro e w5 ⟨rfl, hb5⟩
  obtain ⟨tb, htb⟩ : ∃ tb, tb = w5.heap.size := ⟨_, rfl⟩
  have HTB := Lib.hid htb
  have HR5 : Hid (Run At w0 (w5.alloc (.cells tabA 27)) p tb S Dk.D.new) := Lib.hid (by
    obtain ⟨h1, h2, h3⟩ := H4.out
    have hb6 := bnew hb5 (.cells tabA 27)
    subst htb
    exact ⟨HK.out.below h1 hb6, fun k hk => Nat.le_trans H3.out.size (h2 k hk), TabAt.new w5, Nat.le_trans h3.size hb5.size, fun hk => absurd (HK.out.lt h1 _ hk) (Nat.not_lt.2 hb5.size), bnext h3 hb6⟩)
  clear hb5 htb
  go_wp2_with fail
  rw [← HTB.out]
  refine (HRt.out _ HR5.out.bel).mono ?_
  rintro e w6 ⟨B, cb, rfl, hown, hb6⟩
  have HR6 : Hid (Run At w0 w6 p tb S Dk.D.new ∧ Kept w6 S B (wrs R)) := Lib.hid ⟨HR5.out.more HK.out hb6, Kept.fresh (lies_rec hown) (fun k hk => HR5.out.lt HK.out k hk) (own_base hown)⟩
  have HCb : Hid (R.length ≤ cb) := Lib.hid (own_cap hown)
  clear hown hb6 HR5 H3 H4
  go_wp2_with fail
  refine (HF.out _ _ _ HR6.out.1.at_).mono ?_
  rintro e w7 ⟨rfl, hn7⟩
  obtain ⟨S7, hr7, hm7⟩ := HR6.out.1.step hn7
  have HR7 : Hid (Run At w0 w7 p tb S7 d0 ∧ Kept w7 S7 B (wrs R)) := Lib.hid ⟨hr7, HR6.out.2.moved hm7⟩
  clear hn7 hr7 hm7 HR6
  go_wp2_with fail
  refine (HBg.out _ _ _ _ _ _ HR7.out.1.bel HR7.out.1.tab HR7.out.1.at_ HR7.out.2.lies).mono ?_
  rintro e w8 ⟨v, rfl, hq, hnq, hnow⟩
  rcases HC.out with ⟨d', hbeq, hfu⟩ | ⟨d', hbeq, hwas, hoth⟩
  case inl =>
    rw [hbeq] at hq hnow ⊢
    obtain ⟨q, rfl, hlg, hqW⟩ := hq rfl
    obtain ⟨S8, hr8, _⟩ := HR7.out.1.logged hlg hqW
    have HR8 := Lib.hid hr8.bel
    clear hq hnq hnow hlg hqW hr8 hbeq
    simp only [Wl.Er.no, eno]
    have Hfu := Lib.hid hfu
    by_cases hz : f % 50 = 0
    · have d1 : ((f : Int) % 50 == 0) = true := by simp; omega
      have d2 : ((f : Int) % 50 = 0) = True := by simp; omega
      clear hz hfu
      go_wp2_with fail
      refine (HAw.out _ HR8.out).mono ?_
      rintro e w9 ⟨rfl, h9⟩
      go_wp2_with fail
      go_ret
      exact ⟨rfl, bnext HB0.out (bnext HR8.out h9)⟩
    · have hlt : R.length + 2 < f % 50 := hfu.resolve_left hz
      have d1 : ((f : Int) % 50 == 0) = false := by simp; omega
      have d2 : ((f : Int) % 50 = 0) = False := by simp; omega
      have d3 : decide (((R.length : Int) + 2) < (f : Int) % 50) = true := by simp; omega
      clear hfu
      go_wp2_with fail
      refine (HAw.out _ HR8.out).mono ?_
      rintro e w9 ⟨rfl, h9⟩
      go_wp2_with fail
      go_ret
      exact ⟨rfl, bnext HB0.out (bnext HR8.out h9)⟩
  rw [hbeq] at hnq hnow ⊢
  obtain rfl := hnq (fun h => by cases h)
  obtain ⟨S8, hr8, hm8⟩ := HR7.out.1.step hnow
  have HR8 : Hid (Run At w0 w8 p tb S8 d' ∧ Kept w8 S8 B (wrs R)) := Lib.hid ⟨hr8, HR7.out.2.moved hm8⟩
  have HWs := Lib.hid (fun kk tt => Wl.base_read hwas hoth (show R.length < Nm.top by have := HRg.out.2; exact Nat.lt_of_le_of_lt this (by decide)) HI.out.2 HRg.out.1 kk tt)
  clear hq hnq hnow hr8 hm8 hbeq hwas hoth
  simp only [Wl.Er.no, eno]
  go_wp2_with (refine wpList_load_sub rfl 45 _ rfl w.heap.size 0 rfl 45 X X (0, 0) _ (HR.out _ HR8.out.1.bel) HXX.out Tryz.underlying45 rfl HZ.out ?_)
  refine (HCr.out _ _ _ _ HR8.out.1.bel HR8.out.1.abv HR8.out.1.at_).mono ?_
  rintro e w9 ⟨rfl, hn9⟩
  obtain ⟨S9, hr9, hm9⟩ := HR8.out.1.step hn9
  have HR9 : Hid (Run At w0 w9 p tb S9 (Dk.crash d' ks ts) ∧ Kept w9 S9 B (wrs R)) := Lib.hid ⟨hr9, HR8.out.2.moved hm9⟩
  clear hn9 hr9 hm9
  go_wp2_with fail
  refine (HK.out.start _ _ _ _ HR9.out.1.at_).mono ?_
  rintro e w10 ⟨rfl, hn10⟩
  obtain ⟨D, hD⟩ : ∃ D, D = Dk.start (Dk.crash d' ks ts) := ⟨_, rfl⟩
  have HWs := Lib.hid (HWs.out ks ts)
  rw [← hD] at hn10 HWs
  obtain ⟨S10, hr10, hm10⟩ := HR9.out.1.step hn10
  have HR10 : Hid (Run At w0 w10 p tb S10 D ∧ Kept w10 S10 B (wrs R)) := Lib.hid ⟨hr10, HR9.out.2.moved hm10⟩
  clear hn10 hr10 hm10 hD HR9 HR8 HR7
  go_wp2_with fail
  have hrd := wread_any HK.out nameSays w10 p tb 7 S10 D (HEn.out _ HR10.out.1.bel) (by decide) HR10.out.1.tab HR10.out.1.at_
  rcases HWs.out with ⟨hl0, hrd0⟩ | ⟨m, hm, hrec, hrd1⟩
  case inl =>
    rw [hrd0] at hrd
    refine hrd.mono ?_
    rintro e w11 ⟨A2, cap2, rfl, hl11, _, _, hb11⟩
    have HR11 : Hid (Run At w0 w11 p tb S10 D ∧ Kept w11 S10 B (wrs R)) := Lib.hid ⟨HR10.out.1.more HK.out hb11, HR10.out.2.below hb11⟩
    have HSg := Lib.hid (segs_none HK.out w11 p S10 D HR11.out.1.at_ hl0)
    have HBs : Hid (∀ W, Below w11.heap.size w11 W → Calls Tryz.prog 39 #[.slice A2 0 cap2, .slice B R.length cb] W fun e w' => e = .returned (.bool true) ∧ Below W.heap.size W w') := Lib.hid fun W hb => by
      have h := begins_any [] R A2 B cap2 cb W (.inl rfl) (HR11.out.2.lies.below hb) (Nat.zero_le _) (by have := HRg.out.2; omega) HCb.out (fun _ => .inl rfl)
      simpa using h
    clear hl0 hrd0 hrd hl11 hb11 HWs HR10
    simp only [eno, List.length_nil]
    go_wp2_with fail
    refine HSg.out.mono ?_
    rintro e w12 ⟨rfl, h12⟩
    have H12 := Lib.hid h12
    clear h12
    go_wp2_with fail
    refine (HBs.out _ H12.out).mono ?_
    rintro e w13 ⟨rfl, h13⟩
    have H13 := Lib.hid (bnext HR11.out.1.bel (bnext H12.out h13))
    clear h13
    go_wp2_with fail
    refine (HAw.out _ H13.out).mono ?_
    rintro e w14 ⟨rfl, h14⟩
    go_wp2_with fail
    go_ret
    exact ⟨rfl, bnext HB0.out (bnext H13.out h14)⟩
  rw [hrd1] at hrd
  obtain ⟨hs1, hs2, hs3, hs4⟩ := Wl.stands_says (snap := sn) hm
  generalize Wl.stands sn R m = o at hrd hs1 hs2 hs3 hs4
  obtain ⟨t, rs, c⟩ := o
  refine hrd.mono ?_
  rintro e w11 ⟨A2, cap2, rfl, hl11, _, _, hb11⟩
  have HR11 : Hid (Run At w0 w11 p tb S10 D ∧ Kept w11 S10 B (wrs R)) := Lib.hid ⟨HR10.out.1.more HK.out hb11, HR10.out.2.below hb11⟩
  have hpre : wrs (R.take rs.length) <+: wrs R := wrs_take R rs.length
  have HBs : Hid (∀ W, Below w11.heap.size w11 W → Calls Tryz.prog 39 #[.slice A2 rs.length cap2, .slice B R.length cb] W fun e w' => e = .returned (.bool true) ∧ Below W.heap.size W w') := Lib.hid fun W hb => by
    have h := begins_any rs R A2 B cap2 cb W (hl11.below hb) (HR11.out.2.lies.below hb) (by have := HRg.out.2; have h4 : rs.length ≤ R.length := hs4; omega) (by have := HRg.out.2; omega) HCb.out (fun _ => lies_pre (HR11.out.2.lies.below hb) hpre)
    have e : decide (rs <+: R) = true := decide_eq_true hs1
    rw [e] at h
    exact h
  have HHd : Hid (∀ W, Below w11.heap.size w11 W → Calls Tryz.prog 40 #[.pointer (some ⟨p, 0, none⟩)] W fun e w' => e = .returned (.bool (decide (0 < m))) ∧ Below W.heap.size W w') := Lib.hid fun W hb => by
    have h := headed_any HK.out W p S10 D (HK.out.below HR11.out.1.at_ hb) (HEn.out W (bnext HR11.out.1.bel hb))
    rw [hrec] at h
    exact h
  replace hs2 : c = (decide (rs.length = R.length) && decide (0 < m)) := hs2
  replace hs3 : c = true → t = sn := hs3
  clear hrd hrd1 hm hrec hs1 hs4 hl11 hb11 hpre HWs HR10
  simp only [eno]
  rcases c with _ | _
  case true =>
    obtain rfl := hs3 rfl
    have h5 := hs2.symm
    rw [Bool.and_eq_true, decide_eq_true_eq, decide_eq_true_eq] at h5
    rw [h5.1] at HBs ⊢
    rw [decide_eq_true h5.2] at HHd
    clear hs2 hs3 h5
    go_wp2_with fail
    refine (HBs.out _ (Below.refl _ _)).mono ?_
    rintro e w13 ⟨rfl, h13⟩
    have H13 := Lib.hid h13
    clear h13
    go_wp2_with fail
    refine (HHd.out _ H13.out).mono ?_
    rintro e w14 ⟨rfl, h14⟩
    have H14 := Lib.hid (bnext HR11.out.1.bel (bnext H13.out h14))
    clear h14
    go_wp2_with fail
    refine (HAw.out _ H14.out).mono ?_
    rintro e w15 ⟨rfl, h15⟩
    go_wp2_with fail
    go_ret
    exact ⟨rfl, bnext HB0.out (bnext H14.out h15)⟩
  by_cases hle : rs.length = R.length
  · have h5 : decide (0 < m) = false := by
      have := hs2.symm
      rw [decide_eq_true hle, Bool.true_and] at this
      exact this
    rw [hle] at HBs ⊢
    rw [h5] at HHd
    clear hs2 hs3 h5 hle
    go_wp2_with fail
    refine (HBs.out _ (Below.refl _ _)).mono ?_
    rintro e w13 ⟨rfl, h13⟩
    have H13 := Lib.hid h13
    clear h13
    go_wp2_with fail
    refine (HHd.out _ H13.out).mono ?_
    rintro e w14 ⟨rfl, h14⟩
    have H14 := Lib.hid (bnext HR11.out.1.bel (bnext H13.out h14))
    clear h14
    go_wp2_with fail
    refine (HAw.out _ H14.out).mono ?_
    rintro e w15 ⟨rfl, h15⟩
    go_wp2_with fail
    go_ret
    exact ⟨rfl, bnext HB0.out (bnext H14.out h15)⟩
  · have d1 : ((rs.length : Int) == (R.length : Int)) = false := by simp; omega
    have d2 : ((rs.length : Int) = (R.length : Int)) = False := by simp; omega
    clear hs2 hs3
    go_wp2_with fail
    refine (HBs.out _ (Below.refl _ _)).mono ?_
    rintro e w13 ⟨rfl, h13⟩
    have H13 := Lib.hid (bnext HR11.out.1.bel h13)
    clear h13
    go_wp2_with fail
    refine (HAw.out _ H13.out).mono ?_
    rintro e w15 ⟨rfl, h15⟩
    go_wp2_with fail
    go_ret
    exact ⟨rfl, bnext HB0.out (bnext H13.out h15)⟩
theorem walBase_walk (K : DiskK At) (w : World) (a : Int) (ha : (Lit.int .u64 a).wf = true) (l : List Wl.R) (A : Option Addr) (ca : Nat) (g : GivenR w A l) (f : Int) (hf : (Lit.int .u8 f).wf = true)
    (ks ts : List Int) (KA TA : Option Addr) (kc tc : Nat) (gc : GivenC w ks ts KA TA) (hE : EnvT w ∧ EnvE w) :
    Calls Tryz.prog 7 #[.int .u64 a, .slice A l.length ca, .int .u8 f, .agg #[.slice KA ks.length kc, .slice TA ts.length tc]] w fun e w' => e = .returned (.bool true) ∧ Below w.heap.size w w' := by
  obtain ⟨n, rfl, hn⟩ := u64_nat ha
  obtain ⟨k, rfl, hk⟩ := u8_nat hf
  exact walBase_nat K w n k hn hk l A ca g.lies g.fits g.len ks ts KA TA kc tc gc hE.1
end
end Go.Proofs.YtdcjhpnakbejkaaGreatDoor
