/-
  How many records stand behind a crash, when one Add follows a base of none. No program is named here.
  The statements' own left walked: what stands in a segment of none behind one Add and a crash.
  WalCounts walked.
-/
import Derived.Test.YtdcjhpnakbejkaaGreatDoorRWlLastsM
import Derived.Test.YtdcjhpnakbejkaaGreatDoorRWlBaseW
import Derived.Test.YtdcjhpnakbejkaaGreatDoorRWlApp
import Derived.Test.YtdcjhpnakbejkaaGreatDoorROpen
set_option linter.unusedSimpArgs false
set_option linter.unusedVariables false
namespace Go.Proofs.YtdcjhpnakbejkaaGreatDoor
namespace Wl
open Dk (D Fl find)
/-- A segment of none, with a fuse. -/
def lit (f : Nat) : D := Dk.fuse (begins D.new 7 0 []).2 ((f % 50 : Nat) : Int)
theorem good_nil : Good [] := fun r hr => by cases hr
theorem lit_is (f : Nat) : (begins D.new 7 0 []).1 = .of .ok ∧ Is (lit f) (name 7) (segT 0 0 []) 1 ∧ (lit f).off = false ∧ (lit f).left = f % 50 := by
  obtain ⟨d', h1, h2, h3, _⟩ := begins_ok (d := D.new) (snap := 0) (n := 7) (l := []) rfl rfl (by decide) good_nil (.inl rfl)
  unfold lit
  rw [h1]
  exact ⟨rfl, h2, h3, by show ((f % 50 : Nat) : Int).toNat = _; omega⟩
theorem load_fuse (d : D) (z : Int) : Dk.load (Dk.fuse d z) = Dk.load d := rfl
theorem lit_load (f : Nat) : Dk.load (lit f) ≤ 1000 := by
  have h := load_begins (d := D.new) Dk.inv_new (sn := 0) (by decide) (l := []) good_nil (Nat.zero_le _)
  have h0 : Dk.load D.new = 0 := rfl
  have h1 : cost (([] : List R).map text) = 0 := rfl
  rw [h0, h1] at h
  unfold lit
  rw [load_fuse]
  exact Nat.le_trans h (by decide)
def litCond (f n : Nat) : Bool := decide (f % 50 = 0) || decide (n + 1 < f % 50) || decide (n = 0)
theorem lit_add (f : Nat) {l : List R} (hg : Good l) : decide ((add (lit f) 7 l).1 = .ok) = litCond f l.length ∧ ((add (lit f) 7 l).1 = .ok ∨ (add (lit f) 7 l).1 = .down) ∧ ∃ j, Is (add (lit f) 7 l).2 (name 7) (segT 0 0 (l.take j)) (if (add (lit f) 7 l).1 = .ok then (l.take j).length + 1 else 1) := by
  obtain ⟨_, h2, h3, h4⟩ := lit_is f
  unfold litCond
  by_cases hm : l = []
  · subst hm
    rw [add_nil h3]
    refine ⟨by simp, .inl rfl, 0, ?_⟩
    simpa using h2
  have hl0 : l.length ≠ 0 := fun h => hm (List.eq_nil_of_length_eq_zero h)
  by_cases hl : (lit f).left = 0 ∨ l.length + 1 < (lit f).left
  · obtain ⟨d', a1, a2, _⟩ := add_ok h3 h2 (by decide) hg hm hl
    rw [a1]
    refine ⟨?_, .inl rfl, l.length, ?_⟩
    · rw [h4] at hl
      rcases hl with hl | hl
      · simp [hl]
      · simp [hl]
    · rw [List.take_length]
      simpa using a2
  · obtain ⟨d', a1, a2, _⟩ := add_down h3 h2 (by decide) hg hm (by omega) (by omega)
    rw [a1]
    refine ⟨?_, .inr rfl, (lit f).left - 1, ?_⟩
    · rw [h4] at hl
      have x1 : ¬ f % 50 = 0 := fun h => hl (.inl h)
      have x2 : ¬ l.length + 1 < f % 50 := fun h => hl (.inr h)
      simp [x1, x2, hl0]
    · simpa using a2
/-- What is left behind a crash. -/
theorem lit_read (f : Nat) {l : List R} (hg : Good l) (hz : l.length ≤ 1000000) (keep torn : List Int) :
    readD (Dk.start (Dk.crash (add (lit f) 7 l).2 keep torn)) 7 = ((0, l.take ((Dk.records (Dk.start (Dk.crash (add (lit f) 7 l).2 keep torn)) (name 7)).1 - 1), true), .ok) := by
  obtain ⟨_, _, j, hi⟩ := lit_add f hg
  have hs : 1 ≤ (if (add (lit f) 7 l).1 = .ok then (l.take j).length + 1 else 1) := by split <;> omega
  obtain ⟨m, a1, a2, a3, a4⟩ := crash_read hi (by split <;> omega) (by decide) (by decide) (hg.sub fun r hr => List.mem_of_mem_take hr) keep torn
  rw [a3, a4, if_neg (by omega), decide_eq_true (Nat.zero_le _), List.take_take]
  have : min (m - 1) j = m - 1 ∨ l.length ≤ min (m - 1) j := by
    rw [List.length_take] at a2
    omega
  rcases this with h | h
  · rw [h]
  · rw [List.take_of_length_le h, List.take_of_length_le (by omega)]
theorem lit_same (f : Nat) {l m : List R} (hl : l.length = m.length) (h1 : Good l) (h2 : Good m) (keep torn : List Int) :
    Dk.records (Dk.start (Dk.crash (add (lit f) 7 l).2 keep torn)) (name 7) = Dk.records (Dk.start (Dk.crash (add (lit f) 7 m).2 keep torn)) (name 7) := by
  have hr : Dk.Rd (lit f) (lit f) := ⟨Dk.rl_refl _, rfl, rfl⟩
  exact Dk.rd_records (rd_crash (rd_add hr 7 hl (by rw [h1.all, h2.all])).2 keep torn) _
end Wl
theorem wrs_set : ∀ (L : List Wl.R) (i : Nat) (h : i < L.length) (b : ByteArray), (wrs L).set (16 * i + 15) (.string b) = wrs (L.set i { L[i] with ent := { L[i].ent with body := b } })
  | r :: L, 0, _, b => by
    show (wr1 r ++ wrs L).set 15 (.string b) = wr1 _ ++ wrs L
    rw [List.set_append_left _ _ (by rw [wr1_length]; decide)]
    rfl
  | r :: L, i + 1, h, b => by
    show (wr1 r ++ wrs L).set (16 * (i + 1) + 15) (.string b) = wr1 r ++ wrs (L.set i _)
    rw [List.set_append_right _ _ (by rw [wr1_length]; omega), wr1_length]
    have e : 16 * (i + 1) + 15 - 16 = 16 * i + 15 := by omega
    rw [e, wrs_set L i (by simpa using h) b]
    rfl
end Go.Proofs.YtdcjhpnakbejkaaGreatDoor
namespace Go.Proofs.YtdcjhpnakbejkaaGreatDoor
open Go.RowKit
section
variable {At : DkAt}
theorem eno_zero (e : Dk.E) : (eno e == 0) = decide (e = .ok) := by cases e <;> rfl
set_option maxRecDepth 100000 in
set_option maxHeartbeats 8000000 in
theorem left_any (K : DiskK At) (w : World) (R : List Wl.R) (A : Option Addr) (ca f : Nat) (hf : f < 256) (ks ts : List Int) (KA TA : Option Addr) (kc tc : Nat) (gc : GivenC w ks ts KA TA)
    (hL : Lies w A (wrs R)) (hg : Wl.Good R) (ho : Wl.Ok R) (hc : Wl.cost (R.map Wl.text) ≤ 85000000) (hl : R.length ≤ 40) (hE : EnvT w) (rs : List Wl.R)
    (hrs : Wl.readD (Dk.start (Dk.crash (Wl.add (Wl.lit f) 7 R).2 ks ts)) 7 = ((0, rs, true), .ok)) :
    Calls Tryz.prog 41 #[.slice A R.length ca, .int .u8 (f : Int), .agg #[.slice KA ks.length kc, .slice TA ts.length tc]] w fun e w' => ∃ B cb, e = .returned (.tuple #[.slice B rs.length cb, .bool true]) ∧ Lies w' B (wrs rs) ∧ rs.length ≤ cb ∧ Below w.heap.size w w' := by
  obtain ⟨X, hX⟩ : ∃ X : Array Value, X = #[.slice KA ks.length kc, .slice TA ts.length tc] := ⟨_, rfl⟩
  obtain ⟨w0, hw0⟩ : ∃ w0, w0 = w.alloc (.cells X 45) := ⟨_, rfl⟩
  have hb0 : Below w.heap.size w w0 := by rw [hw0]; exact bnew (Below.refl _ _) _
  have HW0 := Lib.hid hw0
  have HB0 := Lib.hid hb0
  have hE0 := hE.below hb0 (Nat.le_refl _)
  have hL0 := hL.below hb0
  have gc0 := gc.below hb0
  have HEn := Lib.hid (fun W' (hb : Below w0.heap.size w0 W') => hE0.below hb (Nat.le_refl _))
  have HR : Hid (∀ W, Below w0.heap.size w0 W → W.heap[w.heap.size]? = some (.cells X 45 (0, 0))) := Lib.hid fun W hb => by
    rw [hw0] at hb; exact (hb.block _ (by simp)).trans (heap_alloc_new w _)
  have HXX : Hid (∀ j, j < X.size → X[0 + j]? = X[j]?) := Lib.hid fun j _ => by rw [Nat.zero_add]
  have HZ : Hid ((Tryz.prog.info? 45).map (·.size) = some X.size) := Lib.hid (by subst hX; exact sizeCrash)
  have hx2 : X.size = 2 := by subst hX; rfl
  have HBg : Hid (∀ W p tb S, Below w0.heap.size w0 W → TabAt W tb → At W p S Dk.D.new → Calls Tryz.prog 27 #[.pointer (some ⟨p, 0, none⟩), .pointer (some ⟨tb, 0, none⟩), .int .u64 7, .int .u64 0, .slice none 0 0] W (WBegin At W p 7 S (Wl.begins Dk.D.new 7 0 []))) := Lib.hid fun W p tb S hb hT hAt =>
    begin_any K nameSays W p tb 7 0 S Dk.D.new [] none 0 (HEn.out W hb) (by decide) (by decide) hT hAt (.inl rfl) ⟨fun r hr => (by cases hr), Nat.zero_le _⟩ (by decide)
  have hlit := Wl.lit_is f
  have HF : Hid (∀ W p S, At W p S (Wl.begins Dk.D.new 7 0 []).2 → Calls Tryz.prog 36 #[.pointer (some ⟨p, 0, none⟩), .int .i64 ((f : Int) % 50)] W fun e w' => e = .returned (.tuple #[]) ∧ Now At W w' p S (Wl.lit f)) := Lib.hid fun W p S h => by
    have e : (f : Int) % 50 = ((f % 50 : Nat) : Int) := by omega
    unfold Wl.lit
    rw [e]; exact K.fuse W p S _ _ h ⟨by omega, by omega⟩
  have HOk : Hid ((Wl.begins Dk.D.new 7 0 []).1 = .of .ok) := Lib.hid hlit.1
  have hz := Wl.lit_load f
  have HAd : Hid (∀ W p q S, Below w0.heap.size w0 W → LogAt W q p 7 0 → At W p S (Wl.lit f) → ¬ S q → Calls Tryz.prog 29 #[.pointer (some ⟨q, 0, none⟩), .slice A R.length ca] W fun e w' => e = .returned (.int .i64 (eno (Wl.add (Wl.lit f) 7 R).1)) ∧ Logged At W w' p q 7 (Wl.beh (Wl.add (Wl.lit f) 7 R).1 0 R.length) S (Wl.add (Wl.lit f) 7 R).2) := Lib.hid fun W p q S hb hlg hAt hq =>
    add_any K nameSays W q p 7 0 S (Wl.lit f) R A ca (HEn.out W hb) (by decide) hlg hAt hq (hL0.below hb) ho (by omega) (by omega)
  have HCr : Hid (∀ W p S D, Below w0.heap.size w0 W → (∀ k, S k → w0.heap.size ≤ k) → At W p S D → Calls Tryz.prog 37 #[.pointer (some ⟨p, 0, none⟩), .agg X] W fun e w' => e = .returned (.tuple #[]) ∧ Now At W w' p S (Dk.crash D ks ts)) := Lib.hid fun W p S D hb hS h => by
    rw [hX]
    exact K.crashN hb hS (Now.start h) ks ts KA TA kc tc gc0
  have HRs := Lib.hid hrs
  have hcd := (Wl.lit_add f hg).1
  unfold Wl.litCond at hcd
  generalize (Wl.add (Wl.lit f) 7 R) = o at HAd HRs hcd
  generalize Wl.begins Dk.D.new 7 0 [] = o1 at HBg HF HOk
  obtain ⟨e1, d1⟩ := o1
  obtain rfl : e1 = .of .ok := HOk.out
  obtain ⟨e2, d2⟩ := o
  have hcd : decide (e2 = .ok) = (decide (f % 50 = 0) || decide (R.length + 1 < f % 50) || decide (R.length = 0)) := hcd
  have HCd := Lib.hid hcd
  have HK := Lib.hid K
  have hzt := zeroTable
  have hst := storeTabA
  have hsz := tabA_size
  have HI := Lib.hid (And.intro hf hl)
  generalize Wl.lit f = dl at *
  rw [← hX]
  clear K gc hE hX hw0 hg ho hc hl hL hb0 hE0 hL0 gc0 hrs hcd hlit hz HOk hf
  go_enter Tryz.func41, Tryz.ntmps41
  go_wp2_with fail
  rw [← HW0.out]
  refine (HK.out.new _).mono ?_
  rintro e w4 ⟨p, S, rfl, a1, a2, a3⟩
  have H4 := Lib.hid (And.intro a1 (And.intro a2 a3))
  clear a1 a2 a3
  go_wp2_with fail
  refine (make_any _).mono ?_
  rintro e w5 ⟨rfl, hb5⟩
  obtain ⟨tb, htb⟩ : ∃ tb, tb = w5.heap.size := ⟨_, rfl⟩
  have HTB := Lib.hid htb
  have HR5 : Hid (Run At w0 (w5.alloc (.cells tabA 27)) p tb S Dk.D.new) := Lib.hid (by
    obtain ⟨h1, h2, h3⟩ := H4.out
    have hb6 := bnew hb5 (.cells tabA 27)
    subst htb
    exact ⟨HK.out.below h1 hb6, h2, TabAt.new w5, Nat.le_trans h3.size hb5.size, fun hk => absurd (HK.out.lt h1 _ hk) (Nat.not_lt.2 hb5.size), bnext h3 hb6⟩)
  clear hb5 htb
  go_wp2_with fail
  rw [← HTB.out]
  refine (HBg.out _ _ _ _ HR5.out.bel HR5.out.tab HR5.out.at_).mono ?_
  rintro e w8 ⟨v, rfl, hq, _, _⟩
  obtain ⟨q, rfl, hlg, hqW⟩ := hq rfl
  obtain ⟨S8, hr8, _⟩ := HR5.out.logged hlg hqW
  have HR8 : Hid (RunL At w0 w8 p tb q 7 0 S8 d1) := Lib.hid hr8
  clear hq hlg hqW hr8 HR5 H4
  simp only [Wl.Er.no, eno]
  go_wp2_with fail
  refine (HF.out _ _ _ HR8.out.at_).mono ?_
  rintro e w9 ⟨rfl, hn9⟩
  obtain ⟨S9, hr9, _⟩ := HR8.out.step hn9
  have HR9 := Lib.hid hr9
  clear hn9 hr9 HR8
  go_wp2_with fail
  refine (HAd.out _ _ _ _ HR9.out.bel HR9.out.log HR9.out.at_ HR9.out.nq).mono ?_
  rintro e w10 ⟨rfl, hlg⟩
  obtain ⟨S10, hr10, _⟩ := HR9.out.logged hlg
  have HR10 : Hid (Run At w0 w10 p tb S10 d2) := Lib.hid hr10.toRun
  clear hlg hr10 HR9
  go_wp2_with (refine wpList_load_sub rfl 45 _ rfl w.heap.size 0 rfl 45 X X (0, 0) _ (HR.out _ HR10.out.bel) HXX.out Tryz.underlying45 rfl HZ.out ?_)
  refine (HCr.out _ _ _ _ HR10.out.bel HR10.out.abv HR10.out.at_).mono ?_
  rintro e w11 ⟨rfl, hn⟩
  obtain ⟨S11, hr11, _⟩ := HR10.out.step hn
  have HR11 := Lib.hid hr11
  clear hn hr11 HR10
  go_wp2_with fail
  refine (HK.out.start _ _ _ _ HR11.out.at_).mono ?_
  rintro e w12 ⟨rfl, hn⟩
  obtain ⟨S12, hr12, _⟩ := HR11.out.step hn
  have HR12 := Lib.hid hr12
  clear hn hr12 HR11
  go_wp2_with fail
  have hrd := wread_any HK.out nameSays w12 p tb 7 S12 _ (HEn.out _ HR12.out.bel) (by decide) HR12.out.tab HR12.out.at_
  rw [HRs.out] at hrd
  refine hrd.mono ?_
  rintro e w13 ⟨A2, cap2, rfl, hl13, _, hcap13, hb13⟩
  have HFn := Lib.hid (And.intro hl13 (And.intro hcap13 (bnext HB0.out (HR12.out.more HK.out hb13).bel)))
  clear hrd hl13 hcap13 hb13 HR12
  have he := eno_zero e2
  have HCd := Lib.hid HCd.out
  by_cases hz : f % 50 = 0
  · have c1 : ((f : Int) % 50 == 0) = true := by simp; omega
    have c2 : ((f : Int) % 50 = 0) = True := by simp; omega
    have c3 : decide (e2 = .ok) = true := by rw [HCd.out]; simp [hz]
    have c4 : (eno e2 == 0) = true := by rw [he, c3]
    have c5 : (eno e2 = 0) = True := by simpa using c4
    clear he hz c3
    go_wp2_with fail
    go_ret2
    exact ⟨A2, cap2, rfl, HFn.out.1, HFn.out.2.1, HFn.out.2.2⟩
  have c1 : ((f : Int) % 50 == 0) = false := by simp; omega
  have c2 : ((f : Int) % 50 = 0) = False := by simp; omega
  by_cases hz2 : R.length + 1 < f % 50
  · have c3 : decide (e2 = .ok) = true := by rw [HCd.out]; simp [hz2]
    have c4 : (eno e2 == 0) = true := by rw [he, c3]
    have c5 : (eno e2 = 0) = True := by simpa using c4
    have c6 : decide (((R.length : Int) + 1) < (f : Int) % 50) = true := by simp; omega
    clear he hz c3
    have hRl := HI.out.2
    go_wp2_with fail
    go_ret2
    exact ⟨A2, cap2, rfl, HFn.out.1, HFn.out.2.1, HFn.out.2.2⟩
  have c6 : decide (((R.length : Int) + 1) < (f : Int) % 50) = false := by simp; omega
  by_cases hz3 : R.length = 0
  · have c3 : decide (e2 = .ok) = true := by rw [HCd.out]; simp [hz3]
    have c4 : (eno e2 == 0) = true := by rw [he, c3]
    have c5 : (eno e2 = 0) = True := by simpa using c4
    have c7 : ((R.length : Int) == 0) = true := by simp [hz3]
    have c8 : ((R.length : Int) = 0) = True := by simp [hz3]
    have hRl := HI.out.2
    clear he hz c3 hz2 hz3
    go_wp2_with fail
    go_ret2
    exact ⟨A2, cap2, rfl, HFn.out.1, HFn.out.2.1, HFn.out.2.2⟩
  · have c3 : decide (e2 = .ok) = false := by rw [HCd.out]; simp [hz, hz2, hz3]
    have c4 : (eno e2 == 0) = false := by rw [he, c3]
    have c5 : (eno e2 = 0) = False := by simpa using c4
    have c7 : ((R.length : Int) == 0) = false := by rw [beq_eq_false_iff_ne]; omega
    have c8 : ((R.length : Int) = 0) = False := eq_false (by omega)
    have hRl := HI.out.2
    clear he hz c3 hz2 hz3
    go_wp2_with fail
    go_ret2
    exact ⟨A2, cap2, rfl, HFn.out.1, HFn.out.2.1, HFn.out.2.2⟩
end
end Go.Proofs.YtdcjhpnakbejkaaGreatDoor
namespace Go.Proofs.YtdcjhpnakbejkaaGreatDoor
open Go.ChangeShapes Go.WideShapes Go.ChangeAt Go.RowKit Go.Deep
/-- Strings as an argument. -/
structure GivenS (W : World) (A : Option Addr) (l : List ByteArray) : Prop where
  lies : Lies W A (sc l)
  len : l.length ≤ maxLen
  size : ∀ s ∈ l, s.size ≤ maxLen
theorem GivenS.below {W W' : World} {A : Option Addr} {l : List ByteArray} (h : GivenS W A l) (hb : Below W.heap.size W W') : GivenS W' A l := ⟨h.lies.below hb, h.len, h.size⟩
theorem GivenS.cell {W : World} {A : Option Addr} {l : List ByteArray} (h : GivenS W A l) (k : Nat) (hk : k < l.length) : ∃ b off, A = some ⟨b, off, none⟩ ∧ b < W.heap.size ∧ W.cell? ⟨b, off + k, none⟩ = some (.string l[k]) := by
  rcases h.lies with h0 | ⟨b, off, rfl, hb, hc⟩
  · unfold sc at h0
    rw [List.map_eq_nil_iff] at h0
    rw [h0] at hk
    exact absurd hk (Nat.not_lt_zero _)
  · exact ⟨b, off, rfl, hb, hc k _ (by unfold sc; rw [List.getElem?_map, List.getElem?_eq_getElem hk]; rfl)⟩
theorem open8_ss {H : Type} {enc : TypeId × Value → H} {W : World} {a : Option Addr} {len cap : Nat} {d : DataW H} {ps : List MemPlace} (h : DataW.Trod enc Tryz.prog W 0 (fun _ => true) true 86 (.slice a len cap) d ps) :
    ∃ l : List ByteArray, len = l.length ∧ GivenS W a l := by
  obtain ⟨ss, h1, h2, h3, h4⟩ := open_ss h
  exact ⟨ss, h1, h2, by omega, h3⟩
namespace Wl
def Lk (L : List R) : Prop := ∀ r ∈ L, Fits r ∧ right r = true ∧ r.ent.body.size ≤ 200
def body (r : R) (b : ByteArray) : R := { r with ent := { r.ent with body := b } }
theorem lk_right {l : List R} (hf : ∀ r ∈ l, Fits r) (hs : great l = false) : Lk (l.filter right) := fun r hr => by
  obtain ⟨ha, hb⟩ := List.mem_filter.1 hr
  exact ⟨hf r ha, hb, (small_of hs).2 r ha⟩
theorem Lk.good {L : List R} (h : Lk L) (hl : L.length ≤ 40) : Good L ∧ Ok L ∧ cost (L.map text) ≤ 85000000 := by
  have ht : ∀ r ∈ L, (text r).length ≤ 300 := fun r hr => text_len200 (h r hr).1 (h r hr).2.2
  refine ⟨fun r hr => ⟨⟨(h r hr).1, (h r hr).2.1⟩, Nat.lt_of_le_of_lt (ht r hr) (by decide)⟩, ⟨fun r hr => ⟨(h r hr).1, by have := (h r hr).2.2; omega⟩, by omega⟩, ?_⟩
  have hc := cost_le (L.map text) 300 fun t htm => by
    obtain ⟨r, hr, rfl⟩ := List.mem_map.1 htm
    exact ht r hr
  rw [List.length_map] at hc
  have : (60 + 300) * L.length ≤ (60 + 300) * 40 := Nat.mul_le_mul_left _ hl
  omega
theorem Lk.set {L : List R} (h : Lk L) (i : Nat) (hi : i < L.length) (b : ByteArray) (h3 : L[i].kind = 3) (hk : 3 ≤ L[i].ent.kind ∧ L[i].ent.kind ≤ 4) (hb : b.size ≤ 200) : Lk (L.set i (body L[i] b)) := by
  intro r hr
  rcases List.mem_or_eq_of_mem_set hr with hr | rfl
  · exact h r hr
  obtain ⟨f, g, _⟩ := h L[i] (List.getElem_mem hi)
  refine ⟨⟨f.kind, f.trm, f.vote, ⟨f.ent.idx, f.ent.trm, f.ent.kind, f.ent.slot⟩, Nat.lt_of_le_of_lt hb (by decide)⟩, ?_, hb⟩
  have e : En.may (body L[i] b).ent = En.may L[i].ent := by
    unfold En.may body En.nob
    have hk2 : L[i].ent.kind = 3 ∨ L[i].ent.kind = 4 := by omega
    rcases hk2 with hk2 | hk2 <;> simp [hk2]
  unfold right at g ⊢
  rw [if_neg (by rw [h3]; decide)] at g
  rw [if_neg (show ¬ (body L[i] b).kind = 2 by show ¬ L[i].kind = 2; rw [h3]; decide), e]
  exact g
end Wl
theorem own_setbody {w : World} {base : Nat} {g n c : Nat} {L : List Wl.R} (h : w.ownsRow base 62 16 (.slice (some ⟨g, 0, none⟩) n c) n (wrs L)) (hn : L.length = n) (i : Nat) (hi : i < L.length) (b : ByteArray) :
    (w.setCell ⟨g, i * 16 + 15, none⟩ (.string b)).ownsRow base 62 16 (.slice (some ⟨g, 0, none⟩) n c) n (wrs (L.set i (Wl.body L[i] b))) := by
  refine ⟨by rw [wrs_length, List.length_set, hn, Nat.mul_comm], ?_⟩
  rcases h.2 with ⟨hv, _⟩ | ⟨g', cap, cur, hv, hbg, hr, hnc, hcm, hcs, htk⟩
  · cases hv
  injection hv with e1 _ e3
  injection e1 with e1
  injection e1 with e1
  subst e1 e3
  refine .inr ⟨g, c, cur.setIfInBounds (i * 16 + 15) (.string b), rfl, hbg, heap_setCell_same w g _ _ _ _ hr, hnc, hcm, by rw [Array.size_setIfInBounds]; exact hcs, ?_⟩
  rw [Array.toList_setIfInBounds, List.take_set, htk, Nat.mul_comm i 16]
  exact wrs_set L i hi b
section
variable {At : DkAt}
set_option maxRecDepth 100000 in
set_option maxHeartbeats 8000000 in
theorem walCounts_nat (K : DiskK At) (w : World) (l : List Wl.R) (A : Option Addr) (ca : Nat) (g : GivenR w A l) (ss : List ByteArray) (SA : Option Addr) (cs : Nat) (gs : GivenS w SA ss) (f : Nat) (hf : f < 256)
    (ks ts : List Int) (KA TA : Option Addr) (kc tc : Nat) (gc : GivenC w ks ts KA TA) (hE : EnvT w) :
    Calls Tryz.prog 8 #[.slice A l.length ca, .slice SA ss.length cs, .int .u8 (f : Int), .agg #[.slice KA ks.length kc, .slice TA ts.length tc]] w fun e w' => e = .returned (.bool true) ∧ Below w.heap.size w w' := by
  obtain ⟨X, hX⟩ : ∃ X : Array Value, X = #[.slice KA ks.length kc, .slice TA ts.length tc] := ⟨_, rfl⟩
  obtain ⟨w0, hw0⟩ : ∃ w0, w0 = w.alloc (.cells X 45) := ⟨_, rfl⟩
  have hb0 : Below w.heap.size w w0 := by rw [hw0]; exact bnew (Below.refl _ _) _
  have HW0 := Lib.hid hw0
  have HB0 := Lib.hid hb0
  have hE0 := hE.below hb0 (Nat.le_refl _)
  have hA0 := g.below hb0
  have hS0 := gs.below hb0
  have gc0 := gc.below hb0
  have HEn := Lib.hid (fun W' (hb : Below w0.heap.size w0 W') => hE0.below hb (Nat.le_refl _))
  have HGr := Lib.hid (fun W (hb : Below w0.heap.size w0 W) => greatRecs_any l A ca W (hA0.lies.below hb) g.len)
  have HGC := Lib.hid (fun W => greatC_any ks ts KA TA kc tc W)
  have HAw := Lib.hid (fun W hb => walAwake_any K W (HEn.out W hb))
  have HR : Hid (∀ W, Below w0.heap.size w0 W → W.heap[w.heap.size]? = some (.cells X 45 (0, 0))) := Lib.hid fun W hb => by
    rw [hw0] at hb; exact (hb.block _ (by simp)).trans (heap_alloc_new w _)
  have HXX : Hid (∀ j, j < X.size → X[0 + j]? = X[j]?) := Lib.hid fun j _ => by rw [Nat.zero_add]
  have HZ : Hid ((Tryz.prog.info? 45).map (·.size) = some X.size) := Lib.hid (by subst hX; exact sizeCrash)
  have hx2 : X.size = 2 := by subst hX; rfl
  have HLf : Hid (∀ W R' B cb rs, Below w0.heap.size w0 W → Lies W B (wrs R') → Wl.Lk R' → R'.length ≤ 40 → Wl.readD (Dk.start (Dk.crash (Wl.add (Wl.lit f) 7 R').2 ks ts)) 7 = ((0, rs, true), .ok) →
      Calls Tryz.prog 41 #[.slice B R'.length cb, .int .u8 (f : Int), .agg X] W fun e w' => ∃ B cb, e = .returned (.tuple #[.slice B rs.length cb, .bool true]) ∧ Lies w' B (wrs rs) ∧ rs.length ≤ cb ∧ Below W.heap.size W w') := Lib.hid fun W R' B cb rs hb hB hk hl hr => by
    obtain ⟨h1, h2, h3⟩ := hk.good hl
    rw [hX]
    exact left_any K W R' B cb f hf ks ts KA TA kc tc (gc0.below hb) hB h1 h2 h3 hl (HEn.out W hb) rs hr
  rw [← hX] at HGC ⊢
  rcases hgr : Wl.great l with _ | _
  case true =>
    rw [hgr] at HGr
    clear hgr g gs K gc hE hX hw0 hb0 hE0 hA0 gc0 hS0 hf
    go_enter Tryz.func8, Tryz.ntmps8
    go_wp2_with fail
    rw [← HW0.out]
    refine (HGr.out _ (Below.refl _ _)).mono ?_
    rintro e w1 ⟨rfl, h1⟩
    have H1 := Lib.hid h1
    clear h1
    go_wp2_with fail
    refine (HAw.out _ H1.out).mono ?_
    rintro e w2 ⟨rfl, h2⟩
    go_wp2_with fail
    go_ret
    exact ⟨rfl, bnext HB0.out (bnext H1.out h2)⟩
  rw [hgr] at HGr
  rcases hgr3 : Dk.bigC ks ts with _ | _
  case true =>
    rw [hgr3] at HGC
    clear hgr hgr3 g gs K gc hE hX hw0 hb0 hE0 hA0 gc0 hS0 hf
    go_enter Tryz.func8, Tryz.ntmps8
    go_wp2_with fail
    rw [← HW0.out]
    refine (HGr.out _ (Below.refl _ _)).mono ?_
    rintro e w1 ⟨rfl, h1⟩
    have H1 := Lib.hid h1
    clear h1
    go_wp2_with (refine wpList_load_sub rfl 45 _ rfl w.heap.size 0 rfl 45 X X (0, 0) _ (HR.out _ H1.out) HXX.out Tryz.underlying45 rfl HZ.out ?_)
    refine (HGC.out _).mono ?_
    rintro e w3 ⟨rfl, h3⟩
    have H3 := Lib.hid (bnext H1.out h3)
    clear h3
    go_wp2_with fail
    refine (HAw.out _ H3.out).mono ?_
    rintro e w4 ⟨rfl, h4⟩
    go_wp2_with fail
    go_ret
    exact ⟨rfl, bnext HB0.out (bnext H3.out h4)⟩
  rw [hgr3] at HGC
  by_cases hlg : 40 < ss.length
  · have d1 : decide ((40 : Int) < (ss.length : Int)) = true := by simp; omega
    clear hgr hgr3 g gs K gc hE hX hw0 hb0 hE0 hA0 gc0 hS0 hf hlg
    go_enter Tryz.func8, Tryz.ntmps8
    go_wp2_with fail
    rw [← HW0.out]
    refine (HGr.out _ (Below.refl _ _)).mono ?_
    rintro e w1 ⟨rfl, h1⟩
    have H1 := Lib.hid h1
    clear h1
    go_wp2_with (refine wpList_load_sub rfl 45 _ rfl w.heap.size 0 rfl 45 X X (0, 0) _ (HR.out _ H1.out) HXX.out Tryz.underlying45 rfl HZ.out ?_)
    refine (HGC.out _).mono ?_
    rintro e w3 ⟨rfl, h3⟩
    have H3 := Lib.hid (bnext H1.out h3)
    clear h3
    go_wp2_with fail
    refine (HAw.out _ H3.out).mono ?_
    rintro e w4 ⟨rfl, h4⟩
    go_wp2_with fail
    go_ret
    exact ⟨rfl, bnext HB0.out (bnext H3.out h4)⟩
  have d1 : decide ((40 : Int) < (ss.length : Int)) = false := by simp; omega
  have HLs : Hid (ss.length ≤ 40) := Lib.hid (by omega)
  obtain ⟨R, hRl⟩ : ∃ R, R = l.filter Wl.right := ⟨_, rfl⟩
  have hl40 := (Wl.right_good g.fits hgr).2.2.2.1
  have hl0 := (Wl.right_good g.fits hgr).2.2.2.2
  have hlk := Wl.lk_right g.fits hgr
  have HRt := Lib.hid (fun W (hb : Below w0.heap.size w0 W) => right_any8 l A ca W (hA0.lies.below hb) (by omega))
  rw [← hRl] at hl40 HRt hlk
  have HRk : Hid (Wl.Lk R ∧ R.length ≤ 40) := Lib.hid ⟨hlk, hl40⟩
  have HSs : Hid (∀ W, Below w0.heap.size w0 W → GivenS W SA ss) := Lib.hid fun W hb => hS0.below hb
  obtain ⟨i0, hi, hz00, hz1, hz2⟩ := info_parts infoRec
  have HI0 := Lib.hid (And.intro hi (And.intro hz00 (And.intro hz1 hz2)))
  clear hgr hgr3 g gs K gc hE hX hw0 hb0 hE0 hA0 gc0 hS0 hf hlg hRl hl40 hl0 hlk hi hz00 hz1 hz2
  go_enter Tryz.func8, Tryz.ntmps8
  go_wp2_with fail
  rw [← HW0.out]
  refine (HGr.out _ (Below.refl _ _)).mono ?_
  rintro e w1 ⟨rfl, h1⟩
  have H1 := Lib.hid h1
  clear h1
  go_wp2_with (refine wpList_load_sub rfl 45 _ rfl w.heap.size 0 rfl 45 X X (0, 0) _ (HR.out _ H1.out) HXX.out Tryz.underlying45 rfl HZ.out ?_)
  refine (HGC.out _).mono ?_
  rintro e w3 ⟨rfl, h3⟩
  have H3 := Lib.hid (bnext H1.out h3)
  clear h3 H1
  go_wp2_with fail
  refine (HRt.out _ H3.out).mono ?_
  rintro e w6 ⟨B, cb, rfl, hown, hb6⟩
  have HO : Hid (Lies w6 B (wrs R) ∧ R.length ≤ cb ∧ (B = none → R.length = 0 ∧ cb = 0) ∧ Below w0.heap.size w0 w6) := Lib.hid ⟨lies_rec hown, own_cap hown, own_nilcap hown, bnext H3.out hb6⟩
  clear hown hb6 H3
  have hb7 : Below w6.heap.size w6 (w6.alloc (.cells #[] 62)) := bnew (Below.refl _ _) _
  have hE7 : (w6.alloc (.cells #[] 62)).ownsRow w6.heap.size 62 16 (.slice (some ⟨w6.heap.size, 0, none⟩) 0 0) 0 [] := World.ownsRow_lit w6 #[] 0 (Nat.le_refl _) (by simp [maxLen]) (by simp)
  have HEm := Lib.hid (And.intro hE7 hb7)
  clear hE7 hb7
  go_wp2_with (at_builtin; refine wpList_app_any rfl (.tmp 30) (.tmp 31) 42 rfl w6.heap.size 62 i0 (.agg (recC Wl.rzero)) 16 72 Tryz.underlying42 HI0.out.1 HI0.out.2.1 HI0.out.2.2.1 HI0.out.2.2.2 rfl (by decide) _ 0 [] rfl HEm.out.1 B R.length cb (wrs R) rfl (by rw [wrs_length, Nat.mul_comm]) (HO.out.1.below HEm.out.2) HO.out.2.2.1 (wrs_one R) (by have := HRk.out.2; simp only [maxLen]; omega) (by have := HRk.out.2; omega) HEm.out.2.size ?_)
  intro v8 w8 ho8 hg8 _
  have ho8 : w8.ownsRow w6.heap.size 62 16 v8 R.length (wrs R) := by simpa using ho8
  obtain ⟨C, cc, rfl, _⟩ := own_slice ho8
  have HO8 : Hid (w8.ownsRow w6.heap.size 62 16 (.slice C R.length cc) R.length (wrs R) ∧ Below w6.heap.size w6 w8) := Lib.hid ⟨ho8, HEm.out.2.grown hg8 HEm.out.2.size (fun j hj => (own_lt HEm.out.1 hj).2)⟩
  clear ho8 hg8 HEm
  go_wp2_with fail
  go_loopw [11] (fun i wr => ∃ (k : Nat) (L : List Wl.R), k ≤ R.length ∧ i = .int .i64 (k : Int) ∧ L.length = R.length ∧ Wl.Lk L ∧ wr.ownsRow w6.heap.size 62 16 (.slice C R.length cc) R.length (wrs L) ∧ Below w6.heap.size w6 wr) (fun i _ => R.length - (intOf i).toNat)
  case atStart => exact ⟨0, R, Nat.zero_le _, rfl, rfl, HRk.out.1, HO8.out.1, HO8.out.2⟩
  case round =>
    obtain ⟨k, L, hk, rfl, hLl, hLk, hown, hb⟩ := hrel
    have HL := Lib.hid (And.intro hLl (And.intro hLk (And.intro hown (And.intro hb (bnext HO.out.2.2.2 hb)))))
    clear hLl hLk hown hb
    by_cases hlt : k < R.length
    · have hRl := HRk.out.2
      have Hlt := Lib.hid hlt
      have hltL : k < L.length := by rw [HL.out.1]; exact hlt
      obtain ⟨gb, hCg, hrow⟩ : ∃ gb, C = some ⟨gb, 0, none⟩ ∧ ∃ cur, wr.heap[gb]? = some (.cells cur 62 (0, 0)) := by
        rcases HL.out.2.2.1.2 with ⟨_, h0⟩ | ⟨g', cap, cur, hv, _, hr, _⟩
        · omega
        · injection hv with e1
          exact ⟨g', e1, cur, hr⟩
      subst hCg
      obtain ⟨cur, hrow⟩ := hrow
      have hgb : w6.heap.size ≤ gb := own_base HL.out.2.2.1 gb 0 rfl
      obtain ⟨b', off', hbo, hP⟩ := (lies_rec HL.out.2.2.1).recd k hltL
      injection hbo with hbo
      injection hbo with e1 e2
      subst e1 e2
      rw [Nat.zero_add] at hP
      obtain ⟨r, hr⟩ : ∃ r, r = L[k] := ⟨_, rfl⟩
      rw [← hr] at hP
      have c0 := hP.c0
      have c5 := hP.c5
      have c5b : wr.cell? ⟨gb, k * 16 + 3 + 2, none⟩ = some (.int .u8 (r.ent.kind : Int)) := hP.c5
      have c15b : wr.cell? ⟨gb, k * 16 + 3 + 12, none⟩ = some (.string r.ent.body) := hP.c15
      have hfz : ∀ i, wr.frozen? ⟨gb, i, none⟩ = false := fun i => frozen_of_row wr gb i _ _ hrow
      have Hr := Lib.hid (And.intro hr hltL)
      have Hgb := Lib.hid hgb
      have HNx : Hid (∃ (k' : Nat) (L' : List Wl.R), k' ≤ R.length ∧ (Value.int .i64 ((k : Int) + 1)) = .int .i64 (k' : Int) ∧ k' = k + 1 ∧ L'.length = R.length ∧ Wl.Lk L' ∧ wr.ownsRow w6.heap.size 62 16 (.slice (some ⟨gb, 0, none⟩) R.length cc) R.length (wrs L') ∧ Below w6.heap.size w6 wr) := Lib.hid ⟨k + 1, L, hlt, by simp, rfl, HL.out.1, HL.out.2.1, HL.out.2.2.1, HL.out.2.2.2.1⟩
      have hw64 : wrap64 ((k : Int) + 1) = (k : Int) + 1 := by unfold wrap64; omega
      clear hP hr hgb hrow
      by_cases hks : k < ss.length
      case neg =>
        have e1 : decide ((k : Int) < (ss.length : Int)) = false := by simp; omega
        go_wp2_with fail
        go_roundw
        case rel =>
          obtain ⟨k', L', a1, a2, a3, a4, a5, a6, a7⟩ := HNx.out
          exact ⟨k', L', a1, a2, a4, a5, a6, a7⟩
        case measure => simp [intOf]; omega
      obtain ⟨b2, o2, rfl, hb2, hc2⟩ := (HSs.out wr HL.out.2.2.2.2).cell k hks
      obtain ⟨x, hx⟩ : ∃ x, x = ss[k] := ⟨_, rfl⟩
      rw [← hx] at hc2
      clear hx
      by_cases hbig : 200 < x.size
      · have e2 : decide ((200 : Int) < (x.size : Int)) = true := by simp; omega
        go_wp2_with fail
        refine (HAw.out _ HL.out.2.2.2.2).mono ?_
        rintro e w2 ⟨rfl, h2⟩
        go_wp2_with fail
        go_ret
        exact ⟨rfl, bnext HB0.out (bnext HL.out.2.2.2.2 h2)⟩
      have e2 : decide ((200 : Int) < (x.size : Int)) = false := by simp; omega
      by_cases h3 : r.kind = 3
      case neg =>
        have f1 : ((r.kind : Int) == 3) = false := by simp; omega
        have f2 : ((r.kind : Int) = 3) = False := by simp; omega
        go_wp2_with fail
        go_roundw
        case rel =>
          obtain ⟨k', L', a1, a2, a3, a4, a5, a6, a7⟩ := HNx.out
          exact ⟨k', L', a1, a2, a4, a5, a6, a7⟩
        case measure => simp [intOf]; omega
      have f1 : ((r.kind : Int) == 3) = true := by simp; omega
      have f2 : ((r.kind : Int) = 3) = True := by simp; omega
      by_cases h4 : 3 ≤ r.ent.kind
      case neg =>
        have g1 : decide ((3 : Int) ≤ (r.ent.kind : Int)) = false := by simp; omega
        go_wp2_with fail
        go_roundw
        case rel =>
          obtain ⟨k', L', a1, a2, a3, a4, a5, a6, a7⟩ := HNx.out
          exact ⟨k', L', a1, a2, a4, a5, a6, a7⟩
        case measure => simp [intOf]; omega
      have g1 : decide ((3 : Int) ≤ (r.ent.kind : Int)) = true := by simp; omega
      by_cases h5 : r.ent.kind ≤ 4
      case neg =>
        have g2 : decide ((r.ent.kind : Int) ≤ (4 : Int)) = false := by simp; omega
        go_wp2_with fail
        go_roundw
        case rel =>
          obtain ⟨k', L', a1, a2, a3, a4, a5, a6, a7⟩ := HNx.out
          exact ⟨k', L', a1, a2, a4, a5, a6, a7⟩
        case measure => simp [intOf]; omega
      have g2 : decide ((r.ent.kind : Int) ≤ (4 : Int)) = true := by simp; omega
      have hset := own_setbody HL.out.2.2.1 HL.out.1 k Hr.out.2 x
      have hlks := Wl.Lk.set HL.out.2.1 k Hr.out.2 x (by rw [← Hr.out.1]; exact h3) (by rw [← Hr.out.1]; exact ⟨h4, h5⟩) (by omega)
      have HSt := Lib.hid (And.intro hset hlks)
      have hfz1 := hfz (k * 16 + 15)
      have hfz2 := hfz (k * 16 + 3 + 12)
      clear hset hlks h4 h5
      go_wp2_with fail
      go_roundw
      case rel => exact ⟨k + 1, L.set k (Wl.body L[k] x), Hlt.out, by simp, by rw [List.length_set]; exact HL.out.1, HSt.out.2, HSt.out.1, HL.out.2.2.2.1.setCell Hgb.out _⟩
      case measure => simp [intOf]; omega
    · obtain rfl : k = R.length := by omega
      have hgR := HRk.out.1.good HRk.out.2
      have hgL := HL.out.2.1.good (by rw [HL.out.1]; exact HRk.out.2)
      have hs := Wl.lit_same f HL.out.1.symm hgR.1 hgL.1 ks ts
      have hr1 := Wl.lit_read f hgR.1 (by have := HRk.out.2; omega) ks ts
      have hr2 := Wl.lit_read f hgL.1 (by have := HL.out.1; have := HRk.out.2; omega) ks ts
      rw [← hs] at hr2
      generalize (Dk.records (Dk.start (Dk.crash (Wl.add (Wl.lit f) 7 R).2 ks ts)) (Wl.name 7)).1 = m at hr1 hr2
      obtain ⟨rs1, h1⟩ : ∃ rs1, rs1 = R.take (m - 1) := ⟨_, rfl⟩
      obtain ⟨rs2, h2⟩ : ∃ rs2, rs2 = L.take (m - 1) := ⟨_, rfl⟩
      rw [← h1] at hr1
      rw [← h2] at hr2
      have HP : Hid (rs2.length = rs1.length ∧ rs1 <+: R ∧ rs2 <+: L ∧ rs1.length ≤ R.length) := Lib.hid ⟨by rw [h1, h2, List.length_take, List.length_take, HL.out.1], by rw [h1]; exact List.take_prefix _ _, by rw [h2]; exact List.take_prefix _ _, by rw [h1, List.length_take]; omega⟩
      have HL1 := Lib.hid (HLf.out wr R B cb rs1 HL.out.2.2.2.2 (HO.out.1.below HL.out.2.2.2.1) HRk.out.1 HRk.out.2 hr1)
      have HL2 : Hid (∀ W, Below wr.heap.size wr W → Calls Tryz.prog 41 #[.slice C R.length cc, .int .u8 (f : Int), .agg X] W fun e w' => ∃ B cb, e = .returned (.tuple #[.slice B rs1.length cb, .bool true]) ∧ Lies w' B (wrs rs2) ∧ rs1.length ≤ cb ∧ Below W.heap.size W w') := Lib.hid fun W hb => by
        have h := HLf.out W L C cc rs2 (bnext HL.out.2.2.2.2 hb) ((lies_rec HL.out.2.2.1).below hb) HL.out.2.1 (by rw [HL.out.1]; exact HRk.out.2) hr2
        rw [HL.out.1, HP.out.1] at h
        exact h
      have HC2 := Lib.hid (own_cap HL.out.2.2.1)
      clear hgR hgL hs hr1 hr2 h1 h2
      go_wp2_with (refine wpList_load_sub rfl 45 _ rfl w.heap.size 0 rfl 45 X X (0, 0) _ (HR.out _ HL.out.2.2.2.2) HXX.out Tryz.underlying45 rfl HZ.out ?_)
      refine HL1.out.mono ?_
      rintro e w20 ⟨B1, k1, rfl, l1, cp1, hb20⟩
      have H20 := Lib.hid (And.intro l1 (And.intro cp1 hb20))
      clear l1 cp1 hb20
      go_wp2_with (refine wpList_load_sub rfl 45 _ rfl w.heap.size 0 rfl 45 X X (0, 0) _ (HR.out _ (bnext HL.out.2.2.2.2 H20.out.2.2)) HXX.out Tryz.underlying45 rfl HZ.out ?_)
      refine (HL2.out _ H20.out.2.2).mono ?_
      rintro e w21 ⟨B2, k2, rfl, l2, cp2, hb21⟩
      have H21 := Lib.hid (And.intro l2 (And.intro cp2 hb21))
      clear l2 cp2 hb21
      have hB1 := begins_any rs1 R B1 B k1 cb w21 (H20.out.1.below H21.out.2.2) (HO.out.1.below (HL.out.2.2.2.1.trans ((H20.out.2.2.mono HL.out.2.2.2.1.size).trans (H21.out.2.2.mono (Nat.le_trans HL.out.2.2.2.1.size H20.out.2.2.size))))) (by have := HP.out.2.2.2; have := HRk.out.2; omega) (by have := HRk.out.2; omega) HO.out.2.1 (fun _ => lies_pre (HO.out.1.below (HL.out.2.2.2.1.trans ((H20.out.2.2.mono HL.out.2.2.2.1.size).trans (H21.out.2.2.mono (Nat.le_trans HL.out.2.2.2.1.size H20.out.2.2.size))))) (wrs_take _ _))
      rw [decide_eq_true HP.out.2.1] at hB1
      have HB1 := Lib.hid hB1
      have HB2 : Hid (∀ W, Below w21.heap.size w21 W → Calls Tryz.prog 39 #[.slice B2 rs1.length k2, .slice C R.length cc] W fun e w' => e = .returned (.bool true) ∧ Below W.heap.size W w') := Lib.hid fun W hb => by
        have hlC : Lies W C (wrs L) := (((lies_rec HL.out.2.2.1).below H20.out.2.2).below H21.out.2.2).below hb
        have h := begins_any rs2 L B2 C k2 cc W (H21.out.1.below hb) hlC (by have := HP.out.1; have := HP.out.2.2.2; have := HRk.out.2; omega) (by have := HL.out.1; have := HRk.out.2; omega) (by rw [HL.out.1]; exact HC2.out) (fun _ => lies_pre hlC (wrs_take _ _))
        rw [decide_eq_true HP.out.2.2.1, HP.out.1, HL.out.1] at h
        exact h
      clear hB1
      go_wp2_with fail
      refine HB1.out.mono ?_
      rintro e w22 ⟨rfl, hb22⟩
      have H22 := Lib.hid hb22
      clear hb22
      go_wp2_with fail
      refine (HB2.out _ H22.out).mono ?_
      rintro e w23 ⟨rfl, hb23⟩
      have H23 := Lib.hid (bnext HL.out.2.2.2.2 (bnext H20.out.2.2 (bnext H21.out.2.2 (bnext H22.out hb23))))
      clear hb23
      go_wp2_with fail
      refine (HAw.out _ H23.out).mono ?_
      rintro e w24 ⟨rfl, h24⟩
      go_wp2_with fail
      go_ret
      exact ⟨rfl, bnext HB0.out (bnext H23.out h24)⟩
theorem walCounts_walk (K : DiskK At) (w : World) (l : List Wl.R) (A : Option Addr) (ca : Nat) (g : GivenR w A l) (ss : List ByteArray) (SA : Option Addr) (cs : Nat) (gs : GivenS w SA ss) (f : Int) (hf : (Lit.int .u8 f).wf = true)
    (ks ts : List Int) (KA TA : Option Addr) (kc tc : Nat) (gc : GivenC w ks ts KA TA) (hE : EnvT w) :
    Calls Tryz.prog 8 #[.slice A l.length ca, .slice SA ss.length cs, .int .u8 f, .agg #[.slice KA ks.length kc, .slice TA ts.length tc]] w fun e w' => e = .returned (.bool true) ∧ Below w.heap.size w w' := by
  obtain ⟨k, rfl, hk⟩ := u8_nat hf
  exact walCounts_nat K w l A ca g ss SA cs gs k hk ks ts KA TA kc tc gc hE
end
end Go.Proofs.YtdcjhpnakbejkaaGreatDoor
