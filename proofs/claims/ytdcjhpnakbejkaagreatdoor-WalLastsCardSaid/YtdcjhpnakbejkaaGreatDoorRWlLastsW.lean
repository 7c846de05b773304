/-
  WalLasts walked.
-/
import Derived.Test.YtdcjhpnakbejkaaGreatDoorRWlBaseW
import Derived.Test.YtdcjhpnakbejkaaGreatDoorRWlLastsM
import Derived.Test.YtdcjhpnakbejkaaGreatDoorRWlOpenA
import Derived.Test.YtdcjhpnakbejkaaGreatDoorRWlApp
set_option linter.unusedSimpArgs false
set_option linter.unusedVariables false
namespace Go.Proofs.YtdcjhpnakbejkaaGreatDoor
open Go.RowKit
section
variable {At : DkAt}
/-- A list that a law holds. -/
structure Held (W : World) (T : Nat → Prop) (B : Option Addr) (cb : Nat) (l : List Wl.R) : Prop where
  kept : Kept W T B (wrs l)
  cap : l.length ≤ cb
  nil : B = none → l.length = 0 ∧ cb = 0
theorem Held.moved {T T' : Nat → Prop} {W W' : World} {B : Option Addr} {cb : Nat} {l : List Wl.R} (h : Held W T B cb l) (m : Moved T W W' T') : Held W' T' B cb l := ⟨h.kept.moved m, h.cap, h.nil⟩
theorem Held.below {T : Nat → Prop} {W W' : World} {B : Option Addr} {cb : Nat} {l : List Wl.R} (h : Held W T B cb l) (hb : Below W.heap.size W W') : Held W' T B cb l := ⟨h.kept.below hb, h.cap, h.nil⟩
theorem Held.fresh {T : Nat → Prop} {W W' : World} {B : Option Addr} {cb : Nat} {l : List Wl.R} (h : W'.ownsRow W.heap.size 62 16 (.slice B l.length cb) l.length (wrs l)) (hT : ∀ k, T k → k < W.heap.size) : Held W' T B cb l :=
  ⟨Kept.fresh (lies_rec h) hT (own_base h), own_cap h, own_nilcap h⟩
/-- How it stands when k Adds have answered OK. -/
structure Li (At : DkAt) (w0 W : World) (p tb q sn b0 : Nat) (S : Nat → Prop) (d : Dk.D) (bh k : Nat) (T : List Wl.R) (B : Option Addr) (cb : Nat) : Prop where
  run : RunL At w0 W p tb q 7 bh S d
  held : Held W (atQ S q) B cb T
  is_ : Wl.Is d (Wl.name 7) (Wl.segT b0 sn T) (T.length + 1)
  off : d.off = false
  load : Dk.load d ≤ 20000 * (k + 1)
  good : Wl.Good T
  len : T.length ≤ 40 * (k + 1)
  b0 : b0 ≤ T.length
  bh : bh ≤ 40 * k
/-- How it stands when no Add follows. -/
structure Fin (At : DkAt) (w0 W : World) (p tb q sn : Nat) (S : Nat → Prop) (d : Dk.D) (T M : List Wl.R) (B : Option Addr) (cb : Nat) (C : Option Addr) (cc : Nat) : Prop where
  run : Run At w0 W p tb S d
  ql : q < W.heap.size
  told : Held W (atQ S q) B cb T
  whole : Held W (atQ S q) C cc M
  len : M.length ≤ 2000
  read : ∀ keep torn, ∃ rs, Wl.readD (Dk.start (Dk.crash d keep torn)) 7 = ((sn, rs, true), .ok) ∧ T <+: rs ∧ rs <+: M
theorem Run.stepQ {w0 W W' : World} {p tb q : Nat} {S : Nat → Prop} {d d' : Dk.D} (h : Run At w0 W p tb S d) (hn : Now At W W' p S d') : ∃ S', Run At w0 W' p tb S' d' ∧ ∀ (hq : q < W.heap.size), Moved (atQ S q) W W' (atQ S' q) := by
  obtain ⟨S', h1, h2⟩ := h.step hn
  exact ⟨S', h1, fun hq => ⟨h2.ko.mono fun k _ hk => .inl hk, fun k hk => hk.elim (fun h5 => (h2.sub k h5).elim (fun h6 => .inl (.inl h6)) .inr) fun e => .inl (.inr e)⟩⟩
theorem Is.fuse {d : Dk.D} {n : ByteArray} {T : List (List UInt8)} {s : Nat} (h : Wl.Is d n T s) (z : Int) : Wl.Is (Dk.fuse d z) n T s := h
theorem Li.below (K : DiskK At) {w0 W W' : World} {p tb q sn b0 : Nat} {S : Nat → Prop} {d : Dk.D} {bh k : Nat} {T : List Wl.R} {B : Option Addr} {cb : Nat} (h : Li At w0 W p tb q sn b0 S d bh k T B cb) (hb : Below W.heap.size W W') : Li At w0 W' p tb q sn b0 S d bh k T B cb :=
  ⟨h.run.more K hb, h.held.below hb, h.is_, h.off, h.load, h.good, h.len, h.b0, h.bh⟩
theorem wrs_join (l m : List Wl.R) : wrs (l ++ m) = wrs l ++ wrs m := by simp [wrs]
theorem Fin.go {w0 W W' : World} {p tb q : Nat} {S : Nat → Prop} {d d' : Dk.D} {T M : List Wl.R} {B C : Option Addr} {cb cc : Nat} (h : Run At w0 W p tb S d ∧ q < W.heap.size ∧ Held W (atQ S q) B cb T ∧ Held W (atQ S q) C cc M) (hn : Now At W W' p S d') :
    ∃ S', Run At w0 W' p tb S' d' ∧ q < W'.heap.size ∧ Held W' (atQ S' q) B cb T ∧ Held W' (atQ S' q) C cc M := by
  obtain ⟨S', h1, h2⟩ := h.1.stepQ hn (q := q)
  exact ⟨S', h1, Nat.lt_of_lt_of_le h.2.1 hn.ko.size, h.2.2.1.moved (h2 h.2.1), h.2.2.2.moved (h2 h.2.1)⟩
theorem Li.fin {w0 W : World} {p tb q sn b0 : Nat} {S : Nat → Prop} {d : Dk.D} {bh k : Nat} {T : List Wl.R} {B : Option Addr} {cb : Nat} (h : Li At w0 W p tb q sn b0 S d bh k T B cb) (hs : sn < Nm.top) (hk : k ≤ 20) : Fin At w0 W p tb q sn S d T T B cb B cb :=
  ⟨h.run.toRun, h.run.log.lt, h.held, h.held, by have := h.len; omega, fun keep torn => Wl.last_read h.is_ (List.prefix_refl _) (List.prefix_refl _) h.b0 hs h.good (by have := h.len; omega) keep torn⟩
set_option maxRecDepth 100000 in
set_option maxHeartbeats 16000000 in
theorem walLasts_nat (K : DiskK At) (w : World) (sn : Nat) (hsn : sn < Nm.top) (l : List Wl.R) (A : Option Addr) (ca : Nat) (g : GivenR w A l) (gs : List Gl) (AG : Option Addr) (cg : Nat) (gg : GivenG w AG gs) (f : Int) (hf : -9223372036854775808 ≤ f ∧ f ≤ 9223372036854775807)
    (ks ts : List Int) (KA TA : Option Addr) (kc tc : Nat) (gc : GivenC w ks ts KA TA) (hE : EnvT w) :
    Calls Tryz.prog 6 #[.int .u64 (sn : Int), .slice A l.length ca, .slice AG gs.length cg, .int .i64 f, .agg #[.slice KA ks.length kc, .slice TA ts.length tc]] w fun e w' => e = .returned (.bool true) ∧ Below w.heap.size w w' := by
  obtain ⟨X, hX⟩ : ∃ X : Array Value, X = #[.slice KA ks.length kc, .slice TA ts.length tc] := ⟨_, rfl⟩
  obtain ⟨w0, hw0⟩ : ∃ w0, w0 = w.alloc (.cells X 45) := ⟨_, rfl⟩
  have hb0 : Below w.heap.size w w0 := by rw [hw0]; exact bnew (Below.refl _ _) _
  have HW0 := Lib.hid hw0
  have HB0 := Lib.hid hb0
  have hE0 := hE.below hb0 (Nat.le_refl _)
  have hA0 := g.below hb0
  have hG0 := gg.below hb0
  have gc0 := gc.below hb0
  have HEn := Lib.hid (fun W' (hb : Below w0.heap.size w0 W') => hE0.below hb (Nat.le_refl _))
  have HGr := Lib.hid (fun W (hb : Below w0.heap.size w0 W) => greatRecs_any l A ca W (hA0.lies.below hb) g.len)
  have HGC := Lib.hid (fun W => greatC_any ks ts KA TA kc tc W)
  have HAw := Lib.hid (fun W hb => walAwake_any K W (HEn.out W hb))
  have HR : Hid (∀ W, Below w0.heap.size w0 W → W.heap[w.heap.size]? = some (.cells X 45 (0, 0))) := Lib.hid fun W hb => by
    rw [hw0] at hb; exact (hb.block _ (by simp)).trans (heap_alloc_new w _)
  have HXX : Hid (∀ j, j < X.size → X[0 + j]? = X[j]?) := Lib.hid fun j _ => by rw [Nat.zero_add]
  have HZ : Hid ((Tryz.prog.info? 45).map (·.size) = some X.size) := Lib.hid (by subst hX; exact sizeCrash)
  have hx2 : X.size = 2 := by subst hX; rfl
  rw [← hX] at HGC ⊢
  rcases hgr : Wl.great l with _ | _
  case true =>
    rw [hgr] at HGr
    clear hgr g gg K gc hE hX hw0 hb0 hE0 hA0 gc0 hG0 hf
    go_enter Tryz.func6, Tryz.ntmps6
    go_wp2_with fail
    rw [← HW0.out]
    refine (HGr.out _ (Below.refl _ _)).mono ?_
    rintro e w1 ⟨rfl, h1⟩
    have H1 := Lib.hid h1
    clear h1
    go_wp2_with fail
    refine (HAw.out _ H1.out).mono ?_
    rintro e w2 ⟨rfl, h2⟩
    go_wp2_with fail
    go_ret
    exact ⟨rfl, bnext HB0.out (bnext H1.out h2)⟩
  rw [hgr] at HGr
  by_cases hlg : 20 < gs.length
  · have d1 : decide ((20 : Int) < (gs.length : Int)) = true := by simp; omega
    clear hgr g gg K gc hE hX hw0 hb0 hE0 hA0 gc0 hG0 hf hlg
    go_enter Tryz.func6, Tryz.ntmps6
    go_wp2_with fail
    rw [← HW0.out]
    refine (HGr.out _ (Below.refl _ _)).mono ?_
    rintro e w1 ⟨rfl, h1⟩
    have H1 := Lib.hid h1
    clear h1
    go_wp2_with fail
    refine (HAw.out _ H1.out).mono ?_
    rintro e w2 ⟨rfl, h2⟩
    go_wp2_with fail
    go_ret
    exact ⟨rfl, bnext HB0.out (bnext H1.out h2)⟩
  have d1 : decide ((20 : Int) < (gs.length : Int)) = false := by simp; omega
  rcases hgr3 : Dk.bigC ks ts with _ | _
  case true =>
    rw [hgr3] at HGC
    clear hgr hgr3 g gg K gc hE hX hw0 hb0 hE0 hA0 gc0 hG0 hf hlg
    go_enter Tryz.func6, Tryz.ntmps6
    go_wp2_with fail
    rw [← HW0.out]
    refine (HGr.out _ (Below.refl _ _)).mono ?_
    rintro e w1 ⟨rfl, h1⟩
    have H1 := Lib.hid h1
    clear h1
    go_wp2_with (refine wpList_load_sub rfl 45 _ rfl w.heap.size 0 rfl 45 X X (0, 0) _ (HR.out _ H1.out) HXX.out Tryz.underlying45 rfl HZ.out ?_)
    refine (HGC.out _).mono ?_
    rintro e w3 ⟨rfl, h3⟩
    have H3 := Lib.hid (bnext H1.out h3)
    clear h3
    go_wp2_with fail
    refine (HAw.out _ H3.out).mono ?_
    rintro e w4 ⟨rfl, h4⟩
    go_wp2_with fail
    go_ret
    exact ⟨rfl, bnext HB0.out (bnext H3.out h4)⟩
  rw [hgr3] at HGC
  have HLg : Hid (gs.length ≤ 20) := Lib.hid (by omega)
  obtain ⟨hgood, hok, hcost, hl40, hl0⟩ := Wl.right_good g.fits hgr
  have hcost2 := Wl.right_cost g.fits hgr
  obtain ⟨R, hRl⟩ : ∃ R, R = l.filter Wl.right := ⟨_, rfl⟩
  have HRt := Lib.hid (fun W (hb : Below w0.heap.size w0 W) => right_any8 l A ca W (hA0.lies.below hb) (by omega))
  rw [← hRl] at hgood hok hcost hl40 HRt hcost2
  have hz0 : Dk.load Dk.D.new = 0 := rfl
  have HBg : Hid (∀ W p tb S B cb, Below w0.heap.size w0 W → TabAt W tb → At W p S Dk.D.new → Lies W B (wrs R) → Calls Tryz.prog 27 #[.pointer (some ⟨p, 0, none⟩), .pointer (some ⟨tb, 0, none⟩), .int .u64 7, .int .u64 (sn : Int), .slice B R.length cb] W (WBegin At W p 7 S (Wl.begins Dk.D.new 7 sn R))) := Lib.hid fun W p tb S B cb hb hT hAt hB =>
    begin_any K nameSays W p tb 7 sn S Dk.D.new R B cb (HEn.out W hb) (by decide) hsn hT hAt hB hok (by omega)
  obtain ⟨d1', hbeq, his, hoff, _, _⟩ := Wl.begins_ok (d := Dk.D.new) (snap := sn) (n := 7) (l := R) rfl rfl (by decide) hgood (.inl rfl)
  have hld1 : Dk.load d1' ≤ 20000 := by
    have := Wl.load_begins (d := Dk.D.new) Dk.inv_new hsn hgood (by omega)
    rw [hbeq] at this
    show Dk.load (Wl.Er.of Dk.E.ok, d1').2 ≤ _
    omega
  have HD1 := Lib.hid (And.intro hbeq (And.intro his (And.intro hoff hld1)))
  have HF : Hid (∀ W p S D, At W p S D → Calls Tryz.prog 36 #[.pointer (some ⟨p, 0, none⟩), .int .i64 f] W fun e w' => e = .returned (.tuple #[]) ∧ Now At W w' p S (Dk.fuse D f)) := Lib.hid fun W p S D h => K.fuse W p S D f h hf
  have HCr : Hid (∀ W p S D, Below w0.heap.size w0 W → (∀ k, S k → w0.heap.size ≤ k) → At W p S D → Calls Tryz.prog 37 #[.pointer (some ⟨p, 0, none⟩), .agg X] W fun e w' => e = .returned (.tuple #[]) ∧ Now At W w' p S (Dk.crash D ks ts)) := Lib.hid fun W p S D hb hS h => by
    rw [hX]
    exact K.crashN hb hS (Now.start h) ks ts KA TA kc tc gc0
  have HRg : Hid (Wl.Good R ∧ R.length ≤ 40) := Lib.hid ⟨hgood, hl40⟩
  have HGs : Hid (∀ W, Below w0.heap.size w0 W → GivenG W AG gs) := Lib.hid fun W hb => hG0.below hb
  have HK := Lib.hid K
  have hzt := zeroTable
  have hst := storeTabA
  have hsz := tabA_size
  have HI := Lib.hid hsn
  obtain ⟨i0, hi, hz00, hz1, hz2⟩ := info_parts infoRec
  have HI0 := Lib.hid (And.intro hi (And.intro hz00 (And.intro hz1 hz2)))
  clear hgr hgr3 g gg K gc hE hX hw0 hgood hok hcost hl40 hl0 hRl hz0 hf hsn hb0 hE0 hA0 gc0 hG0 hlg hbeq his hoff hld1 hcost2 hi hz00 hz1 hz2
  go_enter Tryz.func6, Tryz.ntmps6
  go_wp2_with fail
  rw [← HW0.out]
  refine (HGr.out _ (Below.refl _ _)).mono ?_
  rintro e w1 ⟨rfl, h1⟩
  have H1 := Lib.hid h1
  clear h1
  go_wp2_with (refine wpList_load_sub rfl 45 _ rfl w.heap.size 0 rfl 45 X X (0, 0) _ (HR.out _ H1.out) HXX.out Tryz.underlying45 rfl HZ.out ?_)
  refine (HGC.out _).mono ?_
  rintro e w3 ⟨rfl, h3⟩
  have H3 := Lib.hid (bnext H1.out h3)
  clear h3 H1
  go_wp2_with fail
  refine (HK.out.new _).mono ?_
  rintro e w4 ⟨p, S, rfl, a1, a2, a3⟩
  have H4 := Lib.hid (And.intro a1 (And.intro a2 (bnext H3.out a3)))
  clear a1 a2 a3
  go_wp2_with fail
  refine (make_any _).mono ?_
  rintro e w5 ⟨rfl, hb5⟩
  obtain ⟨tb, htb⟩ : ∃ tb, tb = w5.heap.size := ⟨_, rfl⟩
  have HTB := Lib.hid htb
  have HR5 : Hid (Run At w0 (w5.alloc (.cells tabA 27)) p tb S Dk.D.new) := Lib.hid (by
    obtain ⟨h1, h2, h3⟩ := H4.out
    have hb6 := bnew hb5 (.cells tabA 27)
    subst htb
    exact ⟨HK.out.below h1 hb6, fun k hk => Nat.le_trans H3.out.size (h2 k hk), TabAt.new w5, Nat.le_trans h3.size hb5.size, fun hk => absurd (HK.out.lt h1 _ hk) (Nat.not_lt.2 hb5.size), bnext h3 hb6⟩)
  clear hb5 htb
  go_wp2_with fail
  rw [← HTB.out]
  refine (HRt.out _ HR5.out.bel).mono ?_
  rintro e w6 ⟨B, cb, rfl, hown, hb6⟩
  have HR6 : Hid (Run At w0 w6 p tb S Dk.D.new ∧ Held w6 S B cb R) := Lib.hid ⟨HR5.out.more HK.out hb6, Held.fresh hown (fun k hk => HR5.out.lt HK.out k hk)⟩
  clear hown hb6 HR5 H3 H4
  go_wp2_with fail
  refine (HBg.out _ _ _ _ _ _ HR6.out.1.bel HR6.out.1.tab HR6.out.1.at_ HR6.out.2.kept.lies).mono ?_
  rintro e w8 ⟨v, rfl, hq, _, _⟩
  rw [HD1.out.1] at hq ⊢
  obtain ⟨q, rfl, hlg, hqW⟩ := hq rfl
  obtain ⟨S8, hr8, hm8⟩ := HR6.out.1.logged hlg hqW
  have HR8 : Hid (RunL At w0 w8 p tb q 7 0 S8 d1' ∧ Held w8 (atQ S8 q) B cb R) := Lib.hid ⟨hr8, HR6.out.2.moved hm8⟩
  clear hq hlg hqW hr8 hm8 HR6
  simp only [Wl.Er.no, eno]
  go_wp2_with fail
  refine (HF.out _ _ _ _ HR8.out.1.at_).mono ?_
  rintro e w9 ⟨rfl, hn9⟩
  obtain ⟨S9, hr9, hm9⟩ := HR8.out.1.step hn9
  have HL9 : Hid (Li At w0 w9 p tb q sn R.length S9 (Dk.fuse d1' f) 0 0 R B cb) := Lib.hid ⟨hr9, HR8.out.2.moved hm9, HD1.out.2.1, HD1.out.2.2.1, by have := HD1.out.2.2.2; show Dk.load d1' ≤ _; omega, HRg.out.1, by have := HRg.out.2; omega, Nat.le_refl _, Nat.zero_le _⟩
  clear hn9 hr9 hm9 HR8
  go_wp2_with fail
  go_loopw [13, 16, 17] (fun t v i wr => ∃ (k : Nat) (T : List Wl.R) (B : Option Addr) (cb : Nat) (S : Nat → Prop) (d : Dk.D) (bh : Nat), k ≤ gs.length ∧ i = .int .i64 (k : Int) ∧ t = .slice B T.length cb ∧ v = .slice B T.length cb ∧ Li At w0 wr p tb q sn R.length S d bh k T B cb) (fun _ _ i _ => gs.length - (intOf i).toNat)
  case atStart => exact ⟨0, R, B, cb, S9, _, 0, Nat.zero_le _, rfl, rfl, rfl, HL9.out⟩
  case round =>
    obtain ⟨k, T, B, cb, S, d, bh, hk, rfl, rfl, rfl, hli⟩ := hrel
    have HLi := Lib.hid hli
    clear hli
    by_cases hlt : k < gs.length
    · have hgg := HGs.out wr HLi.out.run.bel
      obtain ⟨bA, oA, rfl, hbA, hcl⟩ := hgg.cell k hlt
      have hgx := hgg.all gs[k] (List.getElem_mem hlt)
      obtain ⟨x, hx⟩ : ∃ x, x = gs[k] := ⟨_, rfl⟩
      rw [← hx] at hcl hgx
      clear hx hgg
      have Hlt := Lib.hid hlt
      obtain ⟨xA, xc, xl⟩ := x
      have hcl : wr.cell? ⟨bA, oA + k, none⟩ = some (.slice xA xl.length xc) := hcl
      have hgx : GivenR wr xA xl := hgx
      have HG1 := Lib.hid (greatRecs_any xl xA xc wr hgx.lies hgx.len)
      rcases hgr : Wl.great xl with _ | _
      case true =>
        rw [hgr] at HG1
        clear hgr hgx
        go_wp2_with fail
        refine HG1.out.mono ?_
        rintro e w1 ⟨rfl, h1⟩
        have H1 := Lib.hid (bnext HLi.out.run.bel h1)
        clear h1
        go_wp2_with fail
        refine (HAw.out _ H1.out).mono ?_
        rintro e w2 ⟨rfl, h2⟩
        go_wp2_with fail
        go_ret
        exact ⟨rfl, bnext HB0.out (bnext H1.out h2)⟩
      rw [hgr] at HG1
      obtain ⟨hgood, hok, _, hl40, hl0⟩ := Wl.right_good hgx.fits hgr
      have hcost2 := Wl.right_cost hgx.fits hgr
      obtain ⟨M, hM⟩ : ∃ M, M = xl.filter Wl.right := ⟨_, rfl⟩
      have HRt2 := Lib.hid (fun W (hb : Below wr.heap.size wr W) => right_any8 xl xA xc W (hgx.lies.below hb) (by omega))
      rw [← hM] at hgood hok hl40 HRt2 hcost2
      have HM := Lib.hid (And.intro hgood (And.intro hok (And.intro hl40 hcost2)))
      have HCl := Lib.hid (And.intro hbA hcl)
      clear hgr hgx hgood hok hl40 hl0 hcost2 hM
      go_wp2_with fail
      refine HG1.out.mono ?_
      rintro e w1 ⟨rfl, h1⟩
      have H1 := Lib.hid h1
      clear h1 hcl
      have hcl1 : w1.cell? ⟨bA, oA + k, none⟩ = some (.slice xA xl.length xc) := (H1.out.cell (p := ⟨bA, oA + k, none⟩) HCl.out.1).trans HCl.out.2
      go_wp2_with fail
      refine (HRt2.out _ H1.out).mono ?_
      rintro e w2 ⟨D, dc, rfl, hown, h2⟩
      have HLi1 := Lib.hid (HLi.out.below HK.out H1.out)
      have HLi2 : Hid (Li At w0 w2 p tb q sn R.length S d bh k T B cb ∧ Held w2 (atQ S q) D dc M) := Lib.hid ⟨HLi1.out.below HK.out h2, Held.fresh hown (fun j hj => HLi1.out.run.lt HK.out j hj)⟩
      clear hown h2 hcl1 HLi1 HLi H1 HCl HG1 HRt2
      go_wp2_with fail
      refine (add_any HK.out nameSays w2 q p 7 bh S d M D dc (HEn.out _ HLi2.out.1.run.bel) (by decide) HLi2.out.1.run.log HLi2.out.1.run.at_ HLi2.out.1.run.nq HLi2.out.2.kept.lies HM.out.2.1 (by have h1 := HLi2.out.1.load; have h2 := HM.out.2.2.2; have h3 := HLg.out; have : 20000 * (k + 1) ≤ 20000 * 21 := Nat.mul_le_mul_left _ (by omega); omega) (by have h1 := HLi2.out.1.bh; have h3 := HLg.out; omega)).mono ?_
      rintro e w3 ⟨rfl, hlg⟩
      obtain ⟨S3, hr3, hm3⟩ := HLi2.out.1.run.logged hlg
      have hl3 := Wl.load_add (HK.out.inv HLi2.out.1.run.at_) HM.out.1
      have HR3 := Lib.hid (And.intro hr3 (And.intro (HLi2.out.1.held.moved hm3) (And.intro (HLi2.out.2.moved hm3) hl3)))
      clear hlg hr3 hm3 hl3
      rcases Wl.adds_says HLi2.out.1.off HLi2.out.1.is_ HM.out.1 with ⟨d', ha1, ha2, ha3⟩ | ⟨d', j, ha1, ha2⟩
      · rw [ha1] at HR3 ⊢
        have HA := Lib.hid (And.intro ha2 ha3)
        clear ha1 ha2 ha3
        simp only [eno]
        obtain ⟨N, hN⟩ : ∃ N, N = T ++ M := ⟨_, rfl⟩
        have HN := Lib.hid hN
        have HNl : Hid (N.length = T.length + M.length) := Lib.hid (by rw [hN, List.length_append])
        clear hN
        have hb3 : Below w3.heap.size w3 (w3.alloc (.cells #[] 62)) := bnew (Below.refl _ _) _
        have hE4 : (w3.alloc (.cells #[] 62)).ownsRow w3.heap.size 62 16 (.slice (some ⟨w3.heap.size, 0, none⟩) 0 0) 0 [] := World.ownsRow_lit w3 #[] 0 (Nat.le_refl _) (by simp [maxLen]) (by simp)
        have HE := Lib.hid (And.intro hE4 hb3)
        clear hE4 hb3
        have HT40 : Hid (T.length ≤ 900 ∧ M.length ≤ 40) := Lib.hid ⟨by have h1 := HLi2.out.1.len; have h3 := HLg.out; omega, HM.out.2.2.1⟩
        go_wp2_with (at_builtin; refine wpList_app_any rfl (.tmp 77) (.tmp 78) 42 rfl w3.heap.size 62 i0 (.agg (recC Wl.rzero)) 16 72 Tryz.underlying42 HI0.out.1 HI0.out.2.1 HI0.out.2.2.1 HI0.out.2.2.2 rfl (by decide) _ 0 [] rfl HE.out.1 B T.length cb (wrs T) rfl (by rw [wrs_length, Nat.mul_comm]) (HR3.out.2.1.kept.lies.below HE.out.2) HR3.out.2.1.nil (wrs_one T) (by have := HT40.out; simp only [maxLen]; omega) (by have := HT40.out; omega) HE.out.2.size ?_)
        intro v4 w4 ho4 hg4 _
        have HO4 : Hid (w4.ownsRow w3.heap.size 62 16 v4 T.length (wrs T) ∧ Below w3.heap.size w3 w4) := Lib.hid ⟨by simpa using ho4, HE.out.2.grown hg4 HE.out.2.size (fun j hj => (own_lt HE.out.1 hj).2)⟩
        clear ho4 hg4
        go_wp2_with (at_builtin; refine wpList_app_any rfl (.tmp 79) (.tmp 80) 42 rfl w3.heap.size 62 i0 (.agg (recC Wl.rzero)) 16 72 Tryz.underlying42 HI0.out.1 HI0.out.2.1 HI0.out.2.2.1 HI0.out.2.2.2 rfl (by decide) v4 T.length (wrs T) rfl HO4.out.1 D M.length dc (wrs M) rfl (by rw [wrs_length, Nat.mul_comm]) (HR3.out.2.2.1.kept.lies.below HO4.out.2) HR3.out.2.2.1.nil (wrs_one M) (by have := HT40.out; simp only [maxLen]; omega) (by have := HT40.out; omega) HO4.out.2.size ?_)
        intro v6 w6 ho6 hg6 _
        have ho7 : w6.ownsRow w3.heap.size 62 16 v6 N.length (wrs N) := by
          rw [HNl.out, HN.out, wrs_join]
          simpa using ho6
        obtain ⟨C, cc, rfl, _⟩ := own_slice ho7
        have HO6 : Hid (w6.ownsRow w3.heap.size 62 16 (.slice C N.length cc) N.length (wrs N) ∧ Below w3.heap.size w3 w6) := Lib.hid ⟨ho7, HO4.out.2.grown hg6 HO4.out.2.size (fun j hj => (own_lt HO4.out.1 hj).2)⟩
        clear ho6 ho7 hg6 HO4 HE
        have HH6 : Hid (Held w6 (atQ S3 q) C cc N ∧ Below w3.heap.size w3 w6) := Lib.hid ⟨Held.fresh HO6.out.1 (fun j hj => HR3.out.1.lt HK.out j hj), HO6.out.2⟩
        clear HO6
        go_wp2_with fail
        have hl20 := HLg.out
        have hlt2 := Hlt.out
        have hw64 : wrap64 ((k : Int) + 1) = (k : Int) + 1 := by unfold wrap64; omega
        go_roundw
        case rel => exact ⟨k + 1, N, C, cc, S3, d', bh + M.length, by have := Hlt.out; omega, by go_num, rfl, rfl, ⟨HR3.out.1.more HK.out HH6.out.2, HH6.out.1, by rw [HN.out]; exact HA.out.1, HA.out.2, by have h1 := HLi2.out.1.load; have h2 := HM.out.2.2.2; have h3 : Dk.load d' ≤ Dk.load d + Wl.cost (M.map Wl.text) := HR3.out.2.2.2; omega, by rw [HN.out]; exact HLi2.out.1.good.app HM.out.1, by have h1 := HLi2.out.1.len; have h2 := HM.out.2.2.1; have := HNl.out; omega, by have h1 := HLi2.out.1.b0; have := HNl.out; omega, by have h1 := HLi2.out.1.bh; have h2 := HM.out.2.2.1; omega⟩⟩
        case measure =>
          have := Hlt.out
          rw [hw64]; simp [intOf]; omega
      · rw [ha1] at HR3 ⊢
        have HA := Lib.hid ha2
        clear ha1 ha2
        simp only [eno]
        obtain ⟨N, hN⟩ : ∃ N, N = T ++ M := ⟨_, rfl⟩
        have HN := Lib.hid hN
        have HNl : Hid (N.length = T.length + M.length) := Lib.hid (by rw [hN, List.length_append])
        clear hN
        have hb3 : Below w3.heap.size w3 (w3.alloc (.cells #[] 62)) := bnew (Below.refl _ _) _
        have hE4 : (w3.alloc (.cells #[] 62)).ownsRow w3.heap.size 62 16 (.slice (some ⟨w3.heap.size, 0, none⟩) 0 0) 0 [] := World.ownsRow_lit w3 #[] 0 (Nat.le_refl _) (by simp [maxLen]) (by simp)
        have HE := Lib.hid (And.intro hE4 hb3)
        clear hE4 hb3
        have HT40 : Hid (T.length ≤ 900 ∧ M.length ≤ 40) := Lib.hid ⟨by have h1 := HLi2.out.1.len; have h3 := HLg.out; omega, HM.out.2.2.1⟩
        go_wp2_with (at_builtin; refine wpList_app_any rfl (.tmp 77) (.tmp 78) 42 rfl w3.heap.size 62 i0 (.agg (recC Wl.rzero)) 16 72 Tryz.underlying42 HI0.out.1 HI0.out.2.1 HI0.out.2.2.1 HI0.out.2.2.2 rfl (by decide) _ 0 [] rfl HE.out.1 B T.length cb (wrs T) rfl (by rw [wrs_length, Nat.mul_comm]) (HR3.out.2.1.kept.lies.below HE.out.2) HR3.out.2.1.nil (wrs_one T) (by have := HT40.out; simp only [maxLen]; omega) (by have := HT40.out; omega) HE.out.2.size ?_)
        intro v4 w4 ho4 hg4 _
        have HO4 : Hid (w4.ownsRow w3.heap.size 62 16 v4 T.length (wrs T) ∧ Below w3.heap.size w3 w4) := Lib.hid ⟨by simpa using ho4, HE.out.2.grown hg4 HE.out.2.size (fun j hj => (own_lt HE.out.1 hj).2)⟩
        clear ho4 hg4
        go_wp2_with (at_builtin; refine wpList_app_any rfl (.tmp 79) (.tmp 80) 42 rfl w3.heap.size 62 i0 (.agg (recC Wl.rzero)) 16 72 Tryz.underlying42 HI0.out.1 HI0.out.2.1 HI0.out.2.2.1 HI0.out.2.2.2 rfl (by decide) v4 T.length (wrs T) rfl HO4.out.1 D M.length dc (wrs M) rfl (by rw [wrs_length, Nat.mul_comm]) (HR3.out.2.2.1.kept.lies.below HO4.out.2) HR3.out.2.2.1.nil (wrs_one M) (by have := HT40.out; simp only [maxLen]; omega) (by have := HT40.out; omega) HO4.out.2.size ?_)
        intro v6 w6 ho6 hg6 _
        have ho7 : w6.ownsRow w3.heap.size 62 16 v6 N.length (wrs N) := by
          rw [HNl.out, HN.out, wrs_join]
          simpa using ho6
        obtain ⟨C, cc, rfl, _⟩ := own_slice ho7
        have HO6 : Hid (w6.ownsRow w3.heap.size 62 16 (.slice C N.length cc) N.length (wrs N) ∧ Below w3.heap.size w3 w6) := Lib.hid ⟨ho7, HO4.out.2.grown hg6 HO4.out.2.size (fun j hj => (own_lt HO4.out.1 hj).2)⟩
        clear ho6 ho7 hg6 HO4 HE
        have HH6 : Hid (Held w6 (atQ S3 q) C cc N ∧ Below w3.heap.size w3 w6) := Lib.hid ⟨Held.fresh HO6.out.1 (fun j hj => HR3.out.1.lt HK.out j hj), HO6.out.2⟩
        clear HO6
        have HFin : Hid (Fin At w0 w6 p tb q sn S3 d' T N B cb C cc) := Lib.hid ⟨(HR3.out.1.more HK.out HH6.out.2).toRun, (HR3.out.1.more HK.out HH6.out.2).log.lt, HR3.out.2.1.below HH6.out.2, HH6.out.1, by have := HT40.out; have := HNl.out; omega, fun kk tt => Wl.last_read HA.out (List.prefix_append _ _) (by rw [HN.out]; exact (List.prefix_append_right_inj T).2 (List.take_prefix j M)) HLi2.out.1.b0 HI.out (by rw [HN.out]; exact HLi2.out.1.good.app HM.out.1) (by have := HT40.out; have := HNl.out; omega) kk tt⟩
        clear HR3 HA HLi2 HM HT40 HH6 HN HNl
        have HF0 := Lib.hid (And.intro HFin.out.run (And.intro HFin.out.ql (And.intro HFin.out.told HFin.out.whole)))
        have HFr := Lib.hid (And.intro HFin.out.len (HFin.out.read ks ts))
        clear HFin
        go_wp2_with (refine wpList_load_sub rfl 45 _ rfl w.heap.size 0 rfl 45 X X (0, 0) _ (HR.out _ HF0.out.1.bel) HXX.out Tryz.underlying45 rfl HZ.out ?_)
        refine (HCr.out _ _ _ _ HF0.out.1.bel HF0.out.1.abv HF0.out.1.at_).mono ?_
        rintro e w20 ⟨rfl, hn⟩
        obtain ⟨S20, hr20⟩ := Fin.go HF0.out hn
        have HF1 := Lib.hid hr20
        clear hn hr20 HF0
        go_wp2_with fail
        refine (HK.out.start _ _ _ _ HF1.out.1.at_).mono ?_
        rintro e w21 ⟨rfl, hn⟩
        obtain ⟨S21, hr21⟩ := Fin.go HF1.out hn
        have HF2 := Lib.hid hr21
        clear hn hr21 HF1
        go_wp2_with fail
        have hrd := wread_any HK.out nameSays w21 p tb 7 S21 _ (HEn.out _ HF2.out.1.bel) (by decide) HF2.out.1.tab HF2.out.1.at_
        obtain ⟨hz, rs, hrs, hp1, hp2⟩ := HFr.out
        rw [hrs] at hrd
        refine hrd.mono ?_
        rintro e w22 ⟨A2, cap2, rfl, hl22, _, hcap22, hb22⟩
        have HF3 := Lib.hid (And.intro (HF2.out.1.more HK.out hb22).bel (And.intro (HF2.out.2.2.1.below hb22) (HF2.out.2.2.2.below hb22)))
        have HP := Lib.hid (And.intro hz (And.intro hp1 (And.intro hp2 (And.intro hl22 hcap22))))
        clear hz hrs hp1 hp2 hrd hl22 hcap22 hb22 HF2 HFr
        simp only [eno]
        go_wp2_with fail
        refine (begins_any T rs B A2 _ cap2 _ HF3.out.2.1.kept.lies HP.out.2.2.2.1 (by have h1 := HP.out.2.1.length_le; have h2 := HP.out.2.2.1.length_le; have h3 := HP.out.1; omega) (by have h2 := HP.out.2.2.1.length_le; have h3 := HP.out.1; omega) HP.out.2.2.2.2 (fun _ => lies_pre HP.out.2.2.2.1 (wrs_take _ _))).mono ?_
        rintro e w23 ⟨rfl, hb23⟩
        rw [decide_eq_true HP.out.2.1]
        have HB23 := Lib.hid hb23
        clear hb23
        go_wp2_with fail
        refine (begins_any rs N A2 C cap2 _ _ (HP.out.2.2.2.1.below HB23.out) (HF3.out.2.2.kept.lies.below HB23.out) (by have h2 := HP.out.2.2.1.length_le; have h3 := HP.out.1; omega) (by have h3 := HP.out.1; omega) HF3.out.2.2.cap (fun _ => lies_pre (HF3.out.2.2.kept.lies.below HB23.out) (wrs_take _ _))).mono ?_
        rintro e w24 ⟨rfl, hb24⟩
        rw [decide_eq_true HP.out.2.2.1]
        have HB24 := Lib.hid (bnext HF3.out.1 (bnext HB23.out hb24))
        clear hb24
        go_wp2_with fail
        refine (HAw.out _ HB24.out).mono ?_
        rintro e w25 ⟨rfl, h25⟩
        go_wp2_with fail
        go_ret
        exact ⟨rfl, bnext HB0.out (bnext HB24.out h25)⟩
    · obtain rfl : k = gs.length := by omega
      have HFin := Lib.hid (HLi.out.fin HI.out HLg.out)
      clear HLi
      have HF0 := Lib.hid (And.intro HFin.out.run (And.intro HFin.out.ql (And.intro HFin.out.told HFin.out.whole)))
      have HFr := Lib.hid (And.intro HFin.out.len (HFin.out.read ks ts))
      clear HFin
      go_wp2_with (refine wpList_load_sub rfl 45 _ rfl w.heap.size 0 rfl 45 X X (0, 0) _ (HR.out _ HF0.out.1.bel) HXX.out Tryz.underlying45 rfl HZ.out ?_)
      refine (HCr.out _ _ _ _ HF0.out.1.bel HF0.out.1.abv HF0.out.1.at_).mono ?_
      rintro e w20 ⟨rfl, hn⟩
      obtain ⟨S20, hr20⟩ := Fin.go HF0.out hn
      have HF1 := Lib.hid hr20
      clear hn hr20 HF0
      go_wp2_with fail
      refine (HK.out.start _ _ _ _ HF1.out.1.at_).mono ?_
      rintro e w21 ⟨rfl, hn⟩
      obtain ⟨S21, hr21⟩ := Fin.go HF1.out hn
      have HF2 := Lib.hid hr21
      clear hn hr21 HF1
      go_wp2_with fail
      have hrd := wread_any HK.out nameSays w21 p tb 7 S21 _ (HEn.out _ HF2.out.1.bel) (by decide) HF2.out.1.tab HF2.out.1.at_
      obtain ⟨hz, rs, hrs, hp1, hp2⟩ := HFr.out
      rw [hrs] at hrd
      refine hrd.mono ?_
      rintro e w22 ⟨A2, cap2, rfl, hl22, _, hcap22, hb22⟩
      have HF3 := Lib.hid (And.intro (HF2.out.1.more HK.out hb22).bel (And.intro (HF2.out.2.2.1.below hb22) (HF2.out.2.2.2.below hb22)))
      have HP := Lib.hid (And.intro hz (And.intro hp1 (And.intro hp2 (And.intro hl22 hcap22))))
      clear hz hrs hp1 hp2 hrd hl22 hcap22 hb22 HF2 HFr
      simp only [eno]
      go_wp2_with fail
      refine (begins_any T rs B A2 _ cap2 _ HF3.out.2.1.kept.lies HP.out.2.2.2.1 (by have h1 := HP.out.2.1.length_le; have h2 := HP.out.2.2.1.length_le; have h3 := HP.out.1; omega) (by have h2 := HP.out.2.2.1.length_le; have h3 := HP.out.1; omega) HP.out.2.2.2.2 (fun _ => lies_pre HP.out.2.2.2.1 (wrs_take _ _))).mono ?_
      rintro e w23 ⟨rfl, hb23⟩
      rw [decide_eq_true HP.out.2.1]
      have HB23 := Lib.hid hb23
      clear hb23
      go_wp2_with fail
      refine (begins_any rs T A2 B cap2 _ _ (HP.out.2.2.2.1.below HB23.out) (HF3.out.2.2.kept.lies.below HB23.out) (by have h2 := HP.out.2.2.1.length_le; have h3 := HP.out.1; omega) (by have h3 := HP.out.1; omega) HF3.out.2.2.cap (fun _ => lies_pre (HF3.out.2.2.kept.lies.below HB23.out) (wrs_take _ _))).mono ?_
      rintro e w24 ⟨rfl, hb24⟩
      rw [decide_eq_true HP.out.2.2.1]
      have HB24 := Lib.hid (bnext HF3.out.1 (bnext HB23.out hb24))
      clear hb24
      go_wp2_with fail
      refine (HAw.out _ HB24.out).mono ?_
      rintro e w25 ⟨rfl, h25⟩
      go_wp2_with fail
      go_ret
      exact ⟨rfl, bnext HB0.out (bnext HB24.out h25)⟩
theorem walLasts_walk (K : DiskK At) (w : World) (a : Int) (ha : (Lit.int .u64 a).wf = true) (l : List Wl.R) (A : Option Addr) (ca : Nat) (g : GivenR w A l) (gs : List Gl) (AG : Option Addr) (cg : Nat) (gg : GivenG w AG gs) (f : Int) (hf : (Lit.int .i64 f).wf = true)
    (ks ts : List Int) (KA TA : Option Addr) (kc tc : Nat) (gc : GivenC w ks ts KA TA) (hE : EnvT w) :
    Calls Tryz.prog 6 #[.int .u64 a, .slice A l.length ca, .slice AG gs.length cg, .int .i64 f, .agg #[.slice KA ks.length kc, .slice TA ts.length tc]] w fun e w' => e = .returned (.bool true) ∧ Below w.heap.size w w' := by
  obtain ⟨n, rfl, hn⟩ := u64_nat ha
  exact walLasts_nat K w n hn l A ca g gs AG cg gg f (i64_bounds hf) ks ts KA TA kc tc gc hE
end
end Go.Proofs.YtdcjhpnakbejkaaGreatDoor
