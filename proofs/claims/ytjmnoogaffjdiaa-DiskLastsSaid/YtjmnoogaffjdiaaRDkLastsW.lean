/-
  DiskLasts walked.
-/
import Derived.Test.YtjmnoogaffjdiaaRDkTwinW
set_option linter.unusedSimpArgs false
set_option linter.unusedVariables false
namespace Go.Proofs.Ytjmnoogaffjdiaa
open Go.RowKit
namespace Dk
theorem sync_ok {d : D} (hv : Inv d) (n : ByteArray) (ho : d.off = false) (hl : d.left = 0) :
    (sync d n = (.none, d)) ∨ ∃ f0, (sync d n).1 = .ok ∧ Okf f0 ∧ f0.name = n ∧ Has f0 (sync d n).2 ∧ read (sync d n).2 n = (bytes f0, .ok) ∧ records (sync d n).2 n = (f0.recs.length, f0.recs.length) := by
  obtain ⟨fs, off, left⟩ := d
  simp only at ho hl
  subst ho hl
  cases hf : find fs n with
  | none => left; simp [sync, hf]
  | some f =>
    right
    have hs : sync ⟨fs, false, 0⟩ n = (.ok, ⟨put fs { f with syn := f.recs.length }, false, 0⟩) := by simp [sync, hf, goes]
    have hk := find_ok hv (n := n) hf
    have hn := find_name hf
    have h1 : find (put fs { f with syn := f.recs.length }) f.name = some { f with syn := f.recs.length } := by rw [find_put, if_pos rfl]
    have h2 : find (put fs { f with syn := f.recs.length }) n = some { f with syn := f.recs.length } := by rw [find_put, if_pos hn]
    refine ⟨{ f with syn := f.recs.length }, by rw [hs], ⟨hk.name, Nat.le_refl _, fun _ => rfl, hk.torn, hk.recs⟩, hn, ?_, ?_, ?_⟩
    · rw [hs]
      exact ⟨{ f with syn := f.recs.length }, h1, List.prefix_refl _, Nat.le_refl _, fun h => ⟨rfl, rfl, h⟩⟩
    · rw [hs]
      unfold read
      rw [if_neg (by simp), h2]
    · rw [hs]; unfold records; rw [h2]
theorem lasts_read {f0 : Fl} (o0 : Okf f0) {d : D} (hv : Inv d) (h : Has f0 d) (ks ts : List Int) :
    ∃ f, read (start (crash d ks ts)) f0.name = (bytes f, .ok) ∧ records (start (crash d ks ts)) f0.name = (f.recs.length, f.recs.length) ∧ bytes f0 <+: bytes f ∧ f0.recs.length ≤ f.recs.length := by
  obtain ⟨f, hf, h1, h2, h3⟩ := lasts o0 hv h ks ts
  refine ⟨f, ?_, ?_, h1, h2⟩
  · unfold read
    show (if (false : Bool) = true then _ else match find (crash d ks ts).files f0.name with | none => _ | some f => _) = _
    rw [if_neg (by simp), hf]
  · unfold records
    show (match find (crash d ks ts).files f0.name with | none => _ | some f => _) = _
    rw [hf]
    show (f.recs.length, f.syn) = _
    rw [h3]
theorem actsLoad_succ (l : List Act) (k : Nat) (h : k < l.length) : actsLoad (l.take (k + 1)) = actsLoad (l.take k) + actLoad l[k] := by
  rw [List.take_succ_eq_append_getElem h]; unfold actsLoad; rw [List.map_append, List.sum_append]; simp
theorem bytes_prefix {a b : List UInt8} (h : a <+: b) : ((⟨b.toArray⟩ : ByteArray).extract 0 (⟨a.toArray⟩ : ByteArray).size) = (⟨a.toArray⟩ : ByteArray) := by
  obtain ⟨c, rfl⟩ := h
  apply ByteArray.ext
  apply Array.toList_inj.1
  rw [Lib.extract_data]
  simp [ByteArray.size]
end Dk
section
variable {At : DkAt}
set_option maxRecDepth 100000 in
set_option maxHeartbeats 16000000 in
theorem diskLasts_walk (K : DiskK At) (w : World) (gs : List Ga) (A : Option Addr) (ca : Nat) (ga : Acts w A gs) (hs : List Ga) (B : Option Addr) (cb : Nat) (gb : Acts w B hs) (nm : ByteArray) (hnm : nm.size ≤ maxLen)
    (ks ts : List Int) (KA TA : Option Addr) (kc tc : Nat) (gc : GivenC w ks ts KA TA) :
    Calls Try.prog 6 #[.slice A gs.length ca, .slice B hs.length cb, .string nm, .agg #[.slice KA ks.length kc, .slice TA ts.length tc]] w fun e w' => e = .returned (.bool true) ∧ Below w.heap.size w w' := by
  obtain ⟨X, hX⟩ : ∃ X : Array Value, X = #[.slice KA ks.length kc, .slice TA ts.length tc] := ⟨_, rfl⟩
  have hb0 : Below w.heap.size w (w.alloc (.cells X 36)) := bnew (Below.refl _ _) _
  have HB0 := Lib.hid hb0
  have HG := Lib.hid (fun W (hb : Below w.heap.size w W) => great_any W gs A ca ⟨ga.lies.below hb, fun g hg => (ga.given g hg).below hb, ga.len⟩)
  have HG2 := Lib.hid (fun W (hb : Below w.heap.size w W) => great_any W hs B cb ⟨gb.lies.below hb, fun g hg => (gb.given g hg).below hb, gb.len⟩)
  have HGC := Lib.hid (fun W => greatC_any ks ts KA TA kc tc W)
  have HA := Lib.hid (awake_any K)
  have HR : Hid (∀ W, Below (w.alloc (.cells X 36)).heap.size (w.alloc (.cells X 36)) W → W.heap[w.heap.size]? = some (.cells X 36 (0, 0))) := Lib.hid fun W hb => (hb.block _ (by simp)).trans (heap_alloc_new w _)
  have HXX : Hid (∀ j, j < X.size → X[0 + j]? = X[j]?) := Lib.hid fun j _ => by rw [Nat.zero_add]
  have HZ : Hid ((Try.prog.info? 36).map (·.size) = some X.size) := Lib.hid (by subst hX; exact sizeCrash)
  have hx2 : X.size = 2 := by subst hX; rfl
  rw [← hX] at HGC ⊢
  rcases hgr : Dk.great (xs gs) with _ | _
  case true =>
    rw [hgr] at HG
    clear hgr ga gb K gc hX hb0
    go_enter Try.func6, Try.ntmps6
    go_wp2_with fail
    refine (HG.out _ HB0.out).mono ?_
    rintro e w1 ⟨rfl, h1⟩
    have H1 := Lib.hid (bnext HB0.out h1)
    clear h1
    go_wp2_with fail
    refine (HA.out _).mono ?_
    rintro e w2 ⟨rfl, h2⟩
    go_wp2_with fail
    go_ret
    exact ⟨rfl, bnext H1.out h2⟩
  rw [hgr] at HG
  rcases hgr2 : Dk.great (xs hs) with _ | _
  case true =>
    rw [hgr2] at HG2
    clear hgr hgr2 ga gb K gc hX hb0
    go_enter Try.func6, Try.ntmps6
    go_wp2_with fail
    refine (HG.out _ HB0.out).mono ?_
    rintro e w1 ⟨rfl, h1⟩
    have H1 := Lib.hid (bnext HB0.out h1)
    clear h1
    go_wp2_with fail
    refine (HG2.out _ H1.out).mono ?_
    rintro e w2 ⟨rfl, h2⟩
    have H2 := Lib.hid (bnext H1.out h2)
    clear h2
    go_wp2_with fail
    refine (HA.out _).mono ?_
    rintro e w3 ⟨rfl, h3⟩
    go_wp2_with fail
    go_ret
    exact ⟨rfl, bnext H2.out h3⟩
  rw [hgr2] at HG2
  rcases hgr3 : Dk.bigC ks ts with _ | _
  case true =>
    rw [hgr3] at HGC
    clear hgr hgr2 hgr3 ga gb K gc hX hb0
    go_enter Try.func6, Try.ntmps6
    go_wp2_with fail
    refine (HG.out _ HB0.out).mono ?_
    rintro e w1 ⟨rfl, h1⟩
    have H1 := Lib.hid h1
    clear h1
    go_wp2_with fail
    refine (HG2.out _ (bnext HB0.out H1.out)).mono ?_
    rintro e w2 ⟨rfl, h2⟩
    have H2 := Lib.hid (bnext H1.out h2)
    clear h2
    go_wp2_with (refine wpList_load_sub rfl 36 _ rfl w.heap.size 0 rfl 36 X X (0, 0) _ (HR.out _ H2.out) HXX.out Try.underlying36 rfl HZ.out ?_)
    refine (HGC.out _).mono ?_
    rintro e w3 ⟨rfl, h3⟩
    have H3 := Lib.hid (bnext HB0.out (bnext H2.out h3))
    clear h3
    go_wp2_with fail
    refine (HA.out _).mono ?_
    rintro e w4 ⟨rfl, h4⟩
    go_wp2_with fail
    go_ret
    exact ⟨rfl, bnext H3.out h4⟩
  rw [hgr3] at HGC
  by_cases hn1 : 100 < nm.size
  case pos =>
    have d1 : decide ((100 : Int) < (nm.size : Int)) = true := by simp; omega
    clear hgr hgr2 hgr3 ga gb K gc hX hb0 hn1
    go_enter Try.func6, Try.ntmps6
    go_wp2_with fail
    refine (HG.out _ HB0.out).mono ?_
    rintro e w1 ⟨rfl, h1⟩
    have H1 := Lib.hid h1
    clear h1
    go_wp2_with fail
    refine (HG2.out _ (bnext HB0.out H1.out)).mono ?_
    rintro e w2 ⟨rfl, h2⟩
    have H2 := Lib.hid (bnext H1.out h2)
    clear h2
    go_wp2_with (refine wpList_load_sub rfl 36 _ rfl w.heap.size 0 rfl 36 X X (0, 0) _ (HR.out _ H2.out) HXX.out Try.underlying36 rfl HZ.out ?_)
    refine (HGC.out _).mono ?_
    rintro e w3 ⟨rfl, h3⟩
    have H3 := Lib.hid (bnext HB0.out (bnext H2.out h3))
    clear h3
    go_wp2_with fail
    refine (HA.out _).mono ?_
    rintro e w4 ⟨rfl, h4⟩
    go_wp2_with fail
    go_ret
    exact ⟨rfl, bnext H3.out h4⟩
  have d1 : decide ((100 : Int) < (nm.size : Int)) = false := by simp; omega
  obtain ⟨_, hl1⟩ := Dk.load_small hgr
  obtain ⟨_, hl2⟩ := Dk.load_small hgr2
  have hlen : hs.length ≤ 100 := by have := (Dk.load_small hgr2).1; rwa [xs_length] at this
  have hz0 : Dk.load Dk.D.new = 0 := rfl
  obtain ⟨w0, hw0⟩ : ∃ w0, w0 = w.alloc (.cells X 36) := ⟨_, rfl⟩
  have HW0 := Lib.hid hw0
  rw [← hw0] at hb0
  obtain ⟨D1, hD1⟩ : ∃ D, D = Dk.fuse (Dk.start (Dk.plays Dk.D.new (xs gs))) 0 := ⟨_, rfl⟩
  have hload1 : Dk.load D1 ≤ 20200 := by
    rw [hD1]; show Dk.load (Dk.plays Dk.D.new (xs gs)) ≤ _
    have := Dk.load_plays (xs gs) Dk.inv_new; omega
  have hinv1 : Dk.Inv D1 := by rw [hD1]; exact Dk.inv_files (Dk.inv_plays (xs gs) Dk.inv_new) rfl
  have hsync := Dk.sync_ok hinv1 nm (by rw [hD1]; rfl) (by rw [hD1]; rfl)
  have hload2 : Dk.load (Dk.sync D1 nm).2 ≤ 20200 := Nat.le_trans (Dk.load_sync hinv1 nm) hload1
  have ga0 : Acts w0 A gs := ⟨ga.lies.below hb0, fun g hg => (ga.given g hg).below hb0, ga.len⟩
  have gb0 : Acts w0 B hs := ⟨gb.lies.below hb0, fun g hg => (gb.given g hg).below hb0, gb.len⟩
  have gc0 := gc.below hb0
  have HP1 : Hid (∀ W p S, At W p S Dk.D.new → Below w0.heap.size w0 W → (∀ k, S k → w0.heap.size ≤ k) → Calls Try.prog 30 #[.pointer (some ⟨p, 0, none⟩), .slice A gs.length ca] W fun e w' => e = .returned (.tuple #[]) ∧ Now At W w' p S (Dk.plays Dk.D.new (xs gs))) := Lib.hid fun W p S h hb hS => plays_any K w0 W hb p S _ hS h gs A ca ga0 (by omega)
  have HSy : Hid (∀ W W' p S, Now At W W' p S D1 → Calls Try.prog 22 #[.pointer (some ⟨p, 0, none⟩), .string nm] W' fun e w' => e = .returned (.int .i64 (eno (Dk.sync D1 nm).1)) ∧ Now At W w' p S (Dk.sync D1 nm).2) := Lib.hid fun W W' p S h => K.syncN h nm (by omega)
  have HF : Hid (∀ W W' p S, Now At W W' p S (Dk.start (Dk.plays Dk.D.new (xs gs))) → Calls Try.prog 16 #[.pointer (some ⟨p, 0, none⟩), .int .i64 0] W' fun e w' => e = .returned (.tuple #[]) ∧ Now At W w' p S D1) := Lib.hid fun W W' p S h => by
    subst hD1
    exact K.fuseN h 0 (by decide)
  have HCr : Hid (∀ W W' p S D, Below w0.heap.size w0 W → (∀ k, S k → w0.heap.size ≤ k) → Now At W W' p S D → Calls Try.prog 17 #[.pointer (some ⟨p, 0, none⟩), .agg X] W' fun e w' => e = .returned (.tuple #[]) ∧ Now At W w' p S (Dk.crash D ks ts)) := Lib.hid fun W W' p S D hb hS h => by
    subst hX
    exact K.crashN hb hS h ks ts KA TA kc tc gc0
  have HK := Lib.hid K
  have HGA := Lib.hid gb0
  have HRd : Hid (∀ W W' p S D, Now At W W' p S D → Calls Try.prog 19 #[.pointer (some ⟨p, 0, none⟩), .string nm] W' fun e w' => e = .returned (.tuple #[.string ⟨(Dk.read D nm).1.toArray⟩, .int .i64 (eno (Dk.read D nm).2)]) ∧ Now At W w' p S D) := Lib.hid fun W W' p S D h => K.readN h nm (by omega)
  have HRc : Hid (∀ W W' p S D, Now At W W' p S D → Calls Try.prog 20 #[.pointer (some ⟨p, 0, none⟩), .string nm] W' fun e w' => e = .returned (.tuple #[.int .i64 ((Dk.records D nm).1 : Int), .int .i64 ((Dk.records D nm).2 : Int)]) ∧ Now At W w' p S D) := Lib.hid fun W W' p S D h => K.recordsN h nm (by omega)
  have HIv : Hid (∀ W W' p S D, Now At W W' p S D → Dk.Inv D) := Lib.hid fun W W' p S D h => by
    obtain ⟨⟨S', h1, _⟩, _⟩ := h
    exact K.inv h1
  rw [← hw0] at HB0 HR
  obtain ⟨D2, hD2⟩ : ∃ D, D = (Dk.sync D1 nm).2 := ⟨_, rfl⟩
  obtain ⟨ev, hev⟩ : ∃ E, E = (Dk.sync D1 nm).1 := ⟨_, rfl⟩
  rw [← hD2] at HSy hload2
  rw [← hev] at HSy
  have HL2 := Lib.hid hl2
  have HLd := Lib.hid hload2
  have HSync := Lib.hid hsync
  have HD2 := Lib.hid hD2
  have HEv := Lib.hid hev
  clear hgr hgr2 hgr3 ga gb K gc hX hn1 hl1 hl2 hz0 hD1 hload1 hinv1 hsync hload2 ga0 gb0 gc0 hb0 hD2 hev hnm hw0
  go_enter Try.func6, Try.ntmps6
  go_wp2_with fail
  refine (HG.out _ (by rw [← HW0.out]; exact HB0.out)).mono ?_
  rintro e w1 ⟨rfl, h1⟩
  rw [← HW0.out] at h1
  have H1 := Lib.hid h1
  clear h1
  go_wp2_with fail
  refine (HG2.out _ (bnext HB0.out H1.out)).mono ?_
  rintro e w2 ⟨rfl, h2⟩
  have H2 := Lib.hid (bnext H1.out h2)
  clear h2
  go_wp2_with (refine wpList_load_sub rfl 36 _ rfl w.heap.size 0 rfl 36 X X (0, 0) _ (HR.out _ H2.out) HXX.out Try.underlying36 rfl HZ.out ?_)
  refine (HGC.out _).mono ?_
  rintro e w3 ⟨rfl, h3⟩
  have H3 := Lib.hid (bnext H2.out h3)
  clear h3 H1 H2
  go_wp2_with fail
  refine (HK.out.new _).mono ?_
  rintro e w4 ⟨p, S, rfl, a1, a2, a3⟩
  have H4 := Lib.hid (And.intro a1 (And.intro (bnext H3.out a3) (fun k (hk : S k) => Nat.le_trans H3.out.size (a2 k hk))))
  clear a1 a2 a3 H3
  go_wp2_with fail
  refine (HP1.out _ _ _ H4.out.1 H4.out.2.1 H4.out.2.2).mono ?_
  rintro e w5 ⟨rfl, hn⟩
  have H5 := Lib.hid hn
  clear hn
  go_wp2_with fail
  refine (HK.out.startN H5.out).mono ?_
  rintro e w6 ⟨rfl, hn⟩
  have H6 := Lib.hid hn
  clear hn H5
  go_wp2_with fail
  refine (HF.out _ _ _ _ H6.out).mono ?_
  rintro e w7 ⟨rfl, hn⟩
  have H7 := Lib.hid hn
  clear hn H6
  go_wp2_with fail
  refine (HSy.out _ _ _ _ H7.out).mono ?_
  rintro e w8 ⟨rfl, hn⟩
  have H8 := Lib.hid hn
  clear hn H7
  rcases HSync.out with hno | ⟨f0, h1, h2, h3, h4, h5, h6⟩
  · obtain rfl : ev = .none := by rw [HEv.out, hno]
    clear hno
    simp only [eno]
    go_wp2_with fail
    refine (HA.out _).mono ?_
    rintro e w9 ⟨rfl, h9⟩
    go_wp2_with fail
    go_ret
    have hbb := H8.out.below H4.out.2.1 H4.out.2.2
    exact ⟨rfl, bnext HB0.out (bnext hbb h9)⟩
  obtain rfl : ev = .ok := by rw [HEv.out, h1]
  rw [← HD2.out] at h4 h5 h6
  have HFi := Lib.hid (And.intro h2 (And.intro h3 h4))
  have H5' := Lib.hid h5
  have H6' := Lib.hid h6
  clear h1 h2 h3 h4 h5 h6
  simp only [eno]
  go_wp2_with fail
  refine (HRd.out _ _ _ _ _ H8.out).mono ?_
  rintro e w9 ⟨rfl, hn⟩
  rw [H5'.out]
  have H9 := Lib.hid hn
  clear hn H8
  obtain ⟨was, hwas⟩ : ∃ t : ByteArray, t = ⟨(Dk.bytes f0).toArray⟩ := ⟨_, rfl⟩
  simp only [← hwas, eno]
  have HWas := Lib.hid hwas
  clear hwas
  go_wp2_with fail
  refine (HRc.out _ _ _ _ _ H9.out).mono ?_
  rintro e w10 ⟨rfl, hn⟩
  rw [H6'.out]
  have H10 := Lib.hid hn
  clear hn H9
  obtain ⟨n0, hn0⟩ : ∃ n, n = f0.recs.length := ⟨_, rfl⟩
  simp only [← hn0]
  have HN0 := Lib.hid hn0
  clear hn0
  go_wp2_with fail
  go_loopw [14] (fun i wr => ∃ k : Nat, k ≤ hs.length ∧ i = .int .i64 (k : Int) ∧ ∃ D, Now At w4 wr p S D ∧ Dk.Has f0 D ∧ Dk.load D ≤ 20200 + Dk.actsLoad ((xs hs).take k)) (fun i _ => hs.length - (intOf i).toNat)
  case atStart => exact ⟨0, Nat.zero_le _, rfl, D2, H10.out, HFi.out.2.2, by have := HLd.out; omega⟩
  case round =>
    obtain ⟨k, hk, rfl, D, hn, hh, hld⟩ := hrel
    have HN := Lib.hid hn
    have HH := Lib.hid hh
    have HLk := Lib.hid hld
    clear hn hh hld
    by_cases hlt : k < hs.length
    · have hbw := HN.out.below H4.out.2.1 H4.out.2.2
      obtain ⟨b, off, hAe, hE⟩ := (HGA.out.lies.below hbw).act k hlt
      have hg := HGA.out.given hs[k] (List.getElem_mem hlt)
      have hxl : k < (xs hs).length := by rw [xs_length]; exact hlt
      have hA1 := actsLoad_at (xs hs) k hxl
      have hA2 := Dk.actsLoad_succ (xs hs) k hxl
      rw [xs_at hs k hlt] at hA1 hA2
      obtain ⟨g, hgk⟩ : ∃ g, g = hs[k] := ⟨_, rfl⟩
      rw [← hgk] at hE hg hA1 hA2
      have HD := Lib.hid (does_in HK.out H4.out.2.1 H4.out.2.2 HN.out hg (by have := HLk.out; have := HL2.out; omega))
      have HHas : Hid (g.x.op ≠ 2 → g.x.op ≠ 3 → Dk.Has f0 (Dk.does D g.x).2) := Lib.hid fun h2 h3 => Dk.has_does (HIv.out _ _ _ _ _ HN.out) HH.out g.x h2 h3
      have HLn : Hid (Dk.load (Dk.does D g.x).2 ≤ 20200 + Dk.actsLoad ((xs hs).take (k + 1)) ∧ Dk.load D ≤ 20200 + Dk.actsLoad ((xs hs).take (k + 1))) := Lib.hid (by
        have h1 := Dk.load_does (HIv.out _ _ _ _ _ HN.out) g.x
        have h2 := HLk.out
        rw [hA2]
        omega)
      have HRg := Lib.hid hE.rng
      have HZa := Lib.hid (sizeAct g)
      have c0 := hE.c0
      have HOp : Hid (∃ o : Nat, o = g.x.op) := Lib.hid ⟨_, rfl⟩
      obtain ⟨o, ho⟩ := HOp.out
      rw [← ho] at c0 HHas
      subst hAe
      clear hE hg hA1 hA2 hgk hbw hxl ho HOp
      by_cases h2 : o = 2
      · subst h2
        go_wp2_with fail
        go_roundw
        case rel => exact ⟨k + 1, by omega, by go_num, D, HN.out, HH.out, HLn.out.2⟩
        case measure => simp [intOf]; omega
      by_cases h3 : o = 3
      · subst h3
        go_wp2_with fail
        go_roundw
        case rel => exact ⟨k + 1, by omega, by go_num, D, HN.out, HH.out, HLn.out.2⟩
        case measure => simp [intOf]; omega
      have HHs := Lib.hid (HHas.out h2 h3)
      have q2 : ((o : Int) != 2) = true := by simp; omega
      have q3 : ((o : Int) != 3) = true := by simp; omega
      have q2' : ((o : Int) == 2) = false := by simp; omega
      have q3' : ((o : Int) == 3) = false := by simp; omega
      clear h2 h3 HHas
      generalize actC g = Y at HD HRg HZa
      go_wp2_with (refine wpList_load_rng rfl 38 _ rfl b (off + k * 6) rfl Y _ HRg.out Try.underlying38 rfl HZa.out ?_)
      refine (HD.out).mono ?_
      rintro e w11 ⟨rfl, hn1⟩
      go_wp2_with fail
      go_roundw
      case rel => exact ⟨k + 1, by omega, by go_num, _, hn1, HHs.out, HLn.out.1⟩
      case measure => simp [intOf]; omega
    · obtain rfl : k = hs.length := by omega
      obtain ⟨f, l1, l2, l3, l4⟩ := Dk.lasts_read HFi.out.1 (HIv.out _ _ _ _ _ HN.out) HH.out ks ts
      rw [HFi.out.2.1] at l1 l2
      have HL1 := Lib.hid l1
      have HLL2 := Lib.hid l2
      have hex := Dk.bytes_prefix l3
      obtain ⟨now, hnow⟩ : ∃ t : ByteArray, t = ⟨(Dk.bytes f).toArray⟩ := ⟨_, rfl⟩
      have hsz : was.size ≤ now.size := by
        rw [HWas.out, hnow]; simpa [ByteArray.size] using l3.length_le
      rw [← hnow, ← HWas.out] at hex
      obtain ⟨n1, hn1⟩ : ∃ n, n = f.recs.length := ⟨_, rfl⟩
      have hnn : n0 ≤ n1 := by rw [HN0.out, hn1]; exact l4
      have HNow := Lib.hid hnow
      have HN1 := Lib.hid hn1
      clear l1 l2 l3 l4 hnow hn1
      have HEx := Lib.hid hex
      clear hex
      have HbR := Lib.hid (HN.out.below H4.out.2.1 H4.out.2.2)
      go_wp2_with (refine wpList_load_sub rfl 36 _ rfl w.heap.size 0 rfl 36 X X (0, 0) _ (HR.out _ HbR.out) HXX.out Try.underlying36 rfl HZ.out ?_)
      refine (HCr.out _ _ _ _ _ H4.out.2.1 H4.out.2.2 HN.out).mono ?_
      rintro e w11 ⟨rfl, hn⟩
      have H11 := Lib.hid hn
      clear hn
      go_wp2_with fail
      refine (HK.out.startN H11.out).mono ?_
      rintro e w12 ⟨rfl, hn⟩
      have H12 := Lib.hid hn
      clear hn H11
      go_wp2_with fail
      refine (HRd.out _ _ _ _ _ H12.out).mono ?_
      rintro e w13 ⟨rfl, hn⟩
      rw [HL1.out]
      have H13 := Lib.hid hn
      clear hn H12
      simp only [← HNow.out, eno]
      go_wp2_with fail
      refine (HRc.out _ _ _ _ _ H13.out).mono ?_
      rintro e w14 ⟨rfl, hn⟩
      rw [HLL2.out]
      have H14 := Lib.hid (bnext HB0.out (hn.below H4.out.2.1 H4.out.2.2))
      clear hn H13
      simp only [← HN1.out]
      have hx1 : (now.extract 0 was.size).toList = was.toList := by rw [HEx.out]
      have hx2 : decide ((was.size : Int) ≤ (now.size : Int)) = true := by simp; omega
      have hx3 : decide ((n0 : Int) ≤ (n1 : Int)) = true := by simp; omega
      go_wp2_with fail
      refine (HA.out _).mono ?_
      rintro e w15 ⟨rfl, h15⟩
      go_wp2_with fail
      go_ret
      exact ⟨rfl, bnext H14.out h15⟩
end
end Go.Proofs.Ytjmnoogaffjdiaa
