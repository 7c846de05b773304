/-
  DiskBegins walked.
-/
import Derived.Test.YtjmnoogaffjdiaaRDkLastsW
set_option linter.unusedSimpArgs false
set_option linter.unusedVariables false
namespace Go.Proofs.Ytjmnoogaffjdiaa
open Go.RowKit
namespace Dk
theorem names_nodup : ∀ {fs : List Fl}, Rises fs → (fs.map (·.name)).Nodup
  | [], _ => List.nodup_nil
  | f :: fs, ⟨h1, h2⟩ => by
    rw [List.map_cons, List.nodup_cons]
    refine ⟨fun hm => ?_, names_nodup h2⟩
    obtain ⟨g, hg, he⟩ := List.mem_map.1 hm
    have := h1 g hg
    rw [he] at this
    exact lt_irrefl _ this
theorem begins_at {d : D} (hv : Inv d) {k : Nat} (hk : k < (list d).length) (ks ts : List Int) :
    ∃ f f', find d.files (list d)[k] = some f ∧ find (crash d ks ts).files (list d)[k] = some f' ∧ bytes f' <+: bytes f ∧ f'.recs.length ≤ f.recs.length ∧ f'.syn = f'.recs.length ∧ (f'.recs.length < f.recs.length → bytes f' ≠ bytes f) := by
  have hk2 : k < d.files.length := by
    have : (list d).length = d.files.length := by show (d.files.map _).length = _; rw [List.length_map]
    omega
  have hn : (list d)[k] = d.files[k].name := by simp [list]
  have hf := find_of_mem hv.rises (List.getElem_mem hk2)
  rw [← hn] at hf
  obtain ⟨j, hj⟩ := find_crash ks ts (list d)[k] 0 d.files
  rw [hf] at hj
  obtain ⟨h1, h2, h3, h4⟩ := begins (find_ok hv hf) ks ts j rfl
  exact ⟨_, _, hf, hj, h1, h2, h3, h4⟩
theorem read_of {d : D} {n : ByteArray} {f : Fl} (ho : d.off = false) (h : find d.files n = some f) : read d n = (bytes f, .ok) := by
  unfold read; rw [ho, if_neg (by simp), h]
theorem records_of {d : D} {n : ByteArray} {f : Fl} (h : find d.files n = some f) : records d n = (f.recs.length, f.syn) := by
  unfold records; rw [h]
theorem bytes_len {d : D} {n : ByteArray} {f : Fl} (h : find d.files n = some f) : (bytes f).length ≤ load d := by
  have h1 := fsLoad_mem (find_mem h)
  have h2 : (bytes f).length = sz f.recs + f.torn.size := by
    unfold bytes
    rw [List.length_append, cat_length, Lib.size_eq]
  have h3 : flLoad f = 1 + f.name.size + f.recs.length + sz f.recs + f.torn.size := rfl
  show _ ≤ fsLoad d.files
  omega
/-- Something more is appended. -/
theorem appends {d : D} (hv : Inv d) {n : ByteArray} {f : Fl} (ho : d.off = false) (hl : d.left = 0) (hf : find d.files n = some f) (r : ByteArray) (hr : r.size ≠ 0) :
    ∃ D', (append d n r).2 = D' ∧ D'.off = false ∧ D'.left = 0 ∧ (∀ m, m ≠ n → find D'.files m = find d.files m) ∧
      (((append d n r).1 = .state ∧ read D' n = (bytes f, .ok)) ∨ ((append d n r).1 = .ok ∧ read D' n = (bytes f ++ r.data.toList, .ok))) := by
  refine ⟨_, rfl, ?_⟩
  rcases append_bytes hv hf hr ho hl with ⟨_, h⟩ | ⟨_, h1, h2, h3, g, h4, h5, h6⟩
  · rw [h]
    exact ⟨ho, hl, fun _ _ => rfl, .inl ⟨rfl, read_of ho hf⟩⟩
  · refine ⟨h2, h3, fun m hm => ?_, .inr ⟨h1, ?_⟩⟩
    · rw [h4, find_put, if_neg (fun h => hm (by rw [← h, h5]))]
    · rw [← h6]
      exact read_of h2 (by rw [h4, find_put, if_pos h5])
end Dk
section
variable {At : DkAt}
/-- Two disks, and a list of names that lies apart from what goes on. -/
structure Bg (At : DkAt) (w W : World) (p q : Nat) (S T : Nat → Prop) (d e : Dk.D) (A : Option Addr) (L : List ByteArray) : Prop where
  two : Two At w W p q S T d e
  lies : Lies W A (sc L)
  away : Away S A (sc L)
theorem Bg.more {w W W' : World} {p q : Nat} {S T : Nat → Prop} {d e : Dk.D} {A : Option Addr} {L : List ByteArray} (K : DiskK At) (h : Bg At w W p q S T d e A L) (hb : Below W.heap.size W W') : Bg At w W' p q S T d e A L :=
  ⟨h.two.more K hb, h.lies.below hb, h.away⟩
theorem Bg.go {w W W' : World} {p q : Nat} {S T : Nat → Prop} {d e d' : Dk.D} {A : Option Addr} {L : List ByteArray} (K : DiskK At) (h : Bg At w W p q S T d e A L) (hn : Now At W W' p S d') : ∃ S', Bg At w W' p q S' T d' e A L := by
  obtain ⟨S', h1, h2⟩ := h.two.go K hn
  exact ⟨S', h1, h.lies.ko h.away hn.ko, h.away.sub h.lies (Nat.le_refl _) h2⟩
/-- How it stands when k names have been gone through. -/
structure Gone (d : Dk.D) (D2 : Dk.D) (L : List ByteArray) (k : Nat) : Prop where
  off : d.off = false
  left : d.left = 0
  load : Dk.load d ≤ 20200 + 35 * k
  same : ∀ j, (hj : j < L.length) → k ≤ j → Dk.find d.files L[j] = Dk.find D2.files L[j]
theorem Gone.next {d D2 D' : Dk.D} {L : List ByteArray} {k : Nat} (h : Gone d D2 L k) (hk : k < L.length) (hd : L.Nodup) (ho : D'.off = false) (hl : D'.left = 0) (hz : Dk.load D' ≤ Dk.load d + 35) (hm : ∀ m, m ≠ L[k] → Dk.find D'.files m = Dk.find d.files m) : Gone D' D2 L (k + 1) :=
  ⟨ho, hl, by have := h.load; omega, fun j hj hkj => by
    rw [hm L[j] (fun he => List.pairwise_iff_getElem.1 hd k j hk hj (by omega) he.symm)]
    exact h.same j hj (by omega)⟩
set_option maxRecDepth 100000 in
set_option maxHeartbeats 16000000 in
theorem diskBegins_walk (K : DiskK At) (w : World) (gs : List Ga) (A : Option Addr) (ca : Nat) (ga : Acts w A gs) (ks ts : List Int) (KA TA : Option Addr) (kc tc : Nat) (gc : GivenC w ks ts KA TA) :
    Calls Try.prog 8 #[.slice A gs.length ca, .agg #[.slice KA ks.length kc, .slice TA ts.length tc]] w fun e w' => e = .returned (.bool true) ∧ Below w.heap.size w w' := by
  obtain ⟨X, hX⟩ : ∃ X : Array Value, X = #[.slice KA ks.length kc, .slice TA ts.length tc] := ⟨_, rfl⟩
  have hb0 : Below w.heap.size w (w.alloc (.cells X 36)) := bnew (Below.refl _ _) _
  have HB0 := Lib.hid hb0
  have HG := Lib.hid (fun W (hb : Below w.heap.size w W) => great_any W gs A ca ⟨ga.lies.below hb, fun g hg => (ga.given g hg).below hb, ga.len⟩)
  have HGC := Lib.hid (fun W => greatC_any ks ts KA TA kc tc W)
  have HA := Lib.hid (awake_any K)
  have HR : Hid (∀ W, Below (w.alloc (.cells X 36)).heap.size (w.alloc (.cells X 36)) W → W.heap[w.heap.size]? = some (.cells X 36 (0, 0))) := Lib.hid fun W hb => (hb.block _ (by simp)).trans (heap_alloc_new w _)
  have HXX : Hid (∀ j, j < X.size → X[0 + j]? = X[j]?) := Lib.hid fun j _ => by rw [Nat.zero_add]
  have HZ : Hid ((Try.prog.info? 36).map (·.size) = some X.size) := Lib.hid (by subst hX; exact sizeCrash)
  have hx2 : X.size = 2 := by subst hX; rfl
  rw [← hX] at HGC ⊢
  rcases hgr : Dk.great (xs gs) with _ | _
  case true =>
    rw [hgr] at HG
    clear hgr ga K gc hX hb0
    go_enter Try.func8, Try.ntmps8
    go_wp2_with fail
    refine (HG.out _ HB0.out).mono ?_
    rintro e w1 ⟨rfl, h1⟩
    have H1 := Lib.hid (bnext HB0.out h1)
    clear h1
    go_wp2_with fail
    refine (HA.out _).mono ?_
    rintro e w2 ⟨rfl, h2⟩
    go_wp2_with fail
    go_ret
    exact ⟨rfl, bnext H1.out h2⟩
  rw [hgr] at HG
  rcases hgr3 : Dk.bigC ks ts with _ | _
  case true =>
    rw [hgr3] at HGC
    clear hgr hgr3 ga K gc hX hb0
    go_enter Try.func8, Try.ntmps8
    go_wp2_with fail
    refine (HG.out _ HB0.out).mono ?_
    rintro e w1 ⟨rfl, h1⟩
    have H1 := Lib.hid h1
    clear h1
    go_wp2_with (refine wpList_load_sub rfl 36 _ rfl w.heap.size 0 rfl 36 X X (0, 0) _ (HR.out _ H1.out) HXX.out Try.underlying36 rfl HZ.out ?_)
    refine (HGC.out _).mono ?_
    rintro e w3 ⟨rfl, h3⟩
    have H3 := Lib.hid (bnext HB0.out (bnext H1.out h3))
    clear h3
    go_wp2_with fail
    refine (HA.out _).mono ?_
    rintro e w4 ⟨rfl, h4⟩
    go_wp2_with fail
    go_ret
    exact ⟨rfl, bnext H3.out h4⟩
  rw [hgr3] at HGC
  obtain ⟨_, hl1⟩ := Dk.load_small hgr
  have hz0 : Dk.load Dk.D.new = 0 := rfl
  obtain ⟨w0, hw0⟩ : ∃ w0, w0 = w.alloc (.cells X 36) := ⟨_, rfl⟩
  have HW0 := Lib.hid hw0
  rw [← hw0] at hb0
  obtain ⟨D1, hD1⟩ : ∃ D, D = Dk.fuse (Dk.start (Dk.plays Dk.D.new (xs gs))) 0 := ⟨_, rfl⟩
  have hload1 : Dk.load D1 ≤ 20200 := by
    rw [hD1]; show Dk.load (Dk.plays Dk.D.new (xs gs)) ≤ _
    have := Dk.load_plays (xs gs) Dk.inv_new; omega
  have hinv1 : Dk.Inv D1 := by rw [hD1]; exact Dk.inv_files (Dk.inv_plays (xs gs) Dk.inv_new) rfl
  have hoff1 : D1.off = false := by rw [hD1]; rfl
  have hleft1 : D1.left = 0 := by rw [hD1]; rfl
  obtain ⟨L, hL⟩ : ∃ L, L = Dk.list D1 := ⟨_, rfl⟩
  obtain ⟨D2, hD2⟩ : ∃ D, D = Dk.start (Dk.crash D1 ks ts) := ⟨_, rfl⟩
  have HLl : Hid (L.length ≤ 20200) := Lib.hid (by rw [hL]; exact Nat.le_trans (Dk.list_len D1) hload1)
  have HNm : Hid (∀ k, (hk : k < L.length) → L[k].size ≤ 32) := Lib.hid fun k hk => by subst hL; exact Dk.name_ok hinv1 hk
  have HNd : Hid L.Nodup := Lib.hid (by rw [hL]; exact Dk.names_nodup hinv1.rises)
  have HBe : Hid (∀ k, (hk : k < L.length) → ∃ f f', Dk.find D1.files L[k] = some f ∧ Dk.find D2.files L[k] = some f' ∧ Dk.bytes f' <+: Dk.bytes f ∧ f'.recs.length ≤ f.recs.length ∧ f'.syn = f'.recs.length ∧ (f'.recs.length < f.recs.length → Dk.bytes f' ≠ Dk.bytes f)) := Lib.hid fun k hk => by
    subst hL hD2
    exact Dk.begins_at hinv1 hk ks ts
  have HG0 : Hid (Gone D2 D2 L 0) := Lib.hid ⟨by rw [hD2]; rfl, by rw [hD2]; exact hleft1, by
    rw [hD2]
    have := Dk.load_crash hinv1 ks ts
    show Dk.load (Dk.crash D1 ks ts) ≤ _
    omega, fun _ _ _ => rfl⟩
  have HO1 := Lib.hid hoff1
  have ga0 : Acts w0 A gs := ⟨ga.lies.below hb0, fun g hg => (ga.given g hg).below hb0, ga.len⟩
  have gc0 := gc.below hb0
  have HP1 : Hid (∀ W p S, At W p S Dk.D.new → Below w0.heap.size w0 W → (∀ k, S k → w0.heap.size ≤ k) → Calls Try.prog 30 #[.pointer (some ⟨p, 0, none⟩), .slice A gs.length ca] W fun e w' => e = .returned (.tuple #[]) ∧ Now At W w' p S (Dk.plays Dk.D.new (xs gs))) := Lib.hid fun W p S h hb hS => plays_any K w0 W hb p S _ hS h gs A ca ga0 (by omega)
  have HF : Hid (∀ W W' p S, Now At W W' p S (Dk.start (Dk.plays Dk.D.new (xs gs))) → Calls Try.prog 16 #[.pointer (some ⟨p, 0, none⟩), .int .i64 0] W' fun e w' => e = .returned (.tuple #[]) ∧ Now At W w' p S D1) := Lib.hid fun W W' p S h => by
    subst hD1
    exact K.fuseN h 0 (by decide)
  have HLs : Hid (∀ W p S, At W p S D1 → Calls Try.prog 25 #[.pointer (some ⟨p, 0, none⟩)] W fun e w' => ∃ A cap, e = .returned (.slice A L.length cap) ∧ Lies w' A (sc L) ∧ Away S A (sc L) ∧ Below W.heap.size W w') := Lib.hid fun W p S h => by
    subst hL
    refine (K.list W p S D1 h).mono fun e w' ⟨A, cap, e1, e2, e3, e4⟩ => ⟨A, cap, e1, e2, fun b off hne he hs => ?_, e4⟩
    have h1 := e3 b off (fun hh => hne (by rw [hh]; rfl)) he
    have h2 := K.lt h b hs
    omega
  have HCr : Hid (∀ W p S, Below w0.heap.size w0 W → (∀ k, S k → w0.heap.size ≤ k) → At W p S D1 → Calls Try.prog 17 #[.pointer (some ⟨p, 0, none⟩), .agg X] W fun e w' => e = .returned (.tuple #[]) ∧ Now At W w' p S (Dk.crash D1 ks ts)) := Lib.hid fun W p S hb hS h => by
    subst hX
    exact K.crashN hb hS (Now.start h) ks ts KA TA kc tc gc0
  have HSt : Hid (∀ W p S, At W p S (Dk.crash D1 ks ts) → Calls Try.prog 18 #[.pointer (some ⟨p, 0, none⟩)] W fun e w' => e = .returned (.tuple #[]) ∧ Now At W w' p S D2) := Lib.hid fun W p S h => by
    subst hD2
    exact K.start W p S _ h
  have HK := Lib.hid K
  rw [← hw0] at HB0 HR
  clear hgr hgr3 ga K gc hX hl1 hz0 hD1 hload1 hinv1 hoff1 hleft1 hL hD2 ga0 gc0 hb0 hw0
  go_enter Try.func8, Try.ntmps8
  go_wp2_with fail
  refine (HG.out _ (by rw [← HW0.out]; exact HB0.out)).mono ?_
  rintro e w1 ⟨rfl, h1⟩
  rw [← HW0.out] at h1
  have H1 := Lib.hid h1
  clear h1
  go_wp2_with (refine wpList_load_sub rfl 36 _ rfl w.heap.size 0 rfl 36 X X (0, 0) _ (HR.out _ H1.out) HXX.out Try.underlying36 rfl HZ.out ?_)
  refine (HGC.out _).mono ?_
  rintro e w3 ⟨rfl, h3⟩
  have H3 := Lib.hid (bnext H1.out h3)
  clear h3 H1
  go_wp2_with fail
  refine (HK.out.new _).mono ?_
  rintro e w4 ⟨p, S, rfl, a1, a2, a3⟩
  have H4 := Lib.hid (And.intro a1 (And.intro (bnext H3.out a3) (fun k (hk : S k) => Nat.le_trans H3.out.size (a2 k hk))))
  clear a1 a2 a3 H3
  go_wp2_with fail
  refine (HP1.out _ _ _ H4.out.1 H4.out.2.1 H4.out.2.2).mono ?_
  rintro e w5 ⟨rfl, hn⟩
  have H5 := Lib.hid hn
  clear hn
  go_wp2_with fail
  refine (HK.out.startN H5.out).mono ?_
  rintro e w6 ⟨rfl, hn⟩
  have H6 := Lib.hid hn
  clear hn H5
  go_wp2_with fail
  refine (HF.out _ _ _ _ H6.out).mono ?_
  rintro e w7 ⟨rfl, hn⟩
  obtain ⟨S2, b1, b2, b3, _⟩ := hn.out H4.out.2.1 H4.out.2.2
  have H7 := Lib.hid (And.intro b1 (And.intro b2 b3))
  clear b1 b2 b3 hn H6 H4
  go_wp2_with fail
  refine (HK.out.twin _ _ _ _ H7.out.1).mono ?_
  rintro e w8 ⟨q, T, rfl, c1, c2, c3⟩
  have H8 : Hid (Two At w0 w8 p q S2 T D1 D1) := Lib.hid ⟨bnext H7.out.2.2 c3, HK.out.below H7.out.1 c3, c1, H7.out.2.1, fun k hk => Nat.le_trans H7.out.2.2.size (c2 k hk), fun k hk ht => by
    have h1 := HK.out.lt H7.out.1 k hk
    have h2 := c2 k ht
    omega⟩
  clear c1 c2 c3 H7
  go_wp2_with fail
  refine (HLs.out _ _ _ H8.out.p).mono ?_
  rintro e w9 ⟨N, cn, rfl, c1, c2, c3⟩
  have H9 : Hid (Bg At w0 w9 p q S2 T D1 D1 N L) := Lib.hid ⟨H8.out.more HK.out c3, c1, c2⟩
  clear c1 c2 c3 H8
  go_wp2_with (refine wpList_load_sub rfl 36 _ rfl w.heap.size 0 rfl 36 X X (0, 0) _ (HR.out _ H9.out.two.b) HXX.out Try.underlying36 rfl HZ.out ?_)
  refine (HCr.out _ _ _ H9.out.two.b H9.out.two.s H9.out.two.p).mono ?_
  rintro e w10 ⟨rfl, hn⟩
  obtain ⟨S3, c1⟩ := H9.out.go HK.out hn
  have H10 := Lib.hid c1
  clear c1 hn H9
  go_wp2_with fail
  refine (HSt.out _ _ _ H10.out.two.p).mono ?_
  rintro e w11 ⟨rfl, hn⟩
  obtain ⟨S4, c1⟩ := H10.out.go HK.out hn
  have H11 := Lib.hid c1
  clear c1 hn H10
  have hl8 := HLl.out
  go_wp2_with fail
  go_loopw [8] (fun i wr => ∃ k : Nat, k ≤ L.length ∧ i = .int .i64 (k : Int) ∧ ∃ S D, Bg At w0 wr p q S T D D1 N L ∧ Gone D D2 L k) (fun i _ => L.length - (intOf i).toNat)
  case atStart => exact ⟨0, Nat.zero_le _, rfl, S4, D2, H11.out, HG0.out⟩
  case round =>
    obtain ⟨k, hk, rfl, S', D, hbg, hgo⟩ := hrel
    have HB := Lib.hid hbg
    have HGo := Lib.hid hgo
    clear hbg hgo
    by_cases hlt : k < L.length
    · obtain ⟨f, f', f1, f2, f3, f4, f5, f6⟩ := HBe.out k hlt
      have f2' : Dk.find D.files L[k] = some f' := (HGo.out.same k hlt (Nat.le_refl _)).trans f2
      have r1 := Dk.read_of HO1.out f1
      have r2 := Dk.read_of HGo.out.off f2'
      have q1 := Dk.records_of f1
      have q2 := Dk.records_of f2'
      obtain ⟨D', ap1, ap2, ap3, ap4, ap5⟩ := Dk.appends (HK.out.inv HB.out.two.p) HGo.out.off HGo.out.left f2' ⟨#[120]⟩ (by decide)
      have hload : Dk.load D' ≤ Dk.load D + 35 := by
        have h1 := Dk.load_append (HK.out.inv HB.out.two.p) L[k] ⟨#[120]⟩
        have h2 := HNm.out k hlt
        have h3 : (⟨#[120]⟩ : ByteArray).size = 1 := rfl
        rw [ap1] at h1; omega
      have HNx : Hid (Gone D' D2 L (k + 1)) := Lib.hid (HGo.out.next hlt HNd.out ap2 ap3 hload ap4)
      have hnm := HNm.out k hlt
      obtain ⟨b, off, hA, hlb, hc⟩ := HB.out.lies.str k hlt
      obtain ⟨n, hn⟩ : ∃ n, n = L[k] := ⟨_, rfl⟩
      rw [← hn] at hc r1 r2 q1 q2 ap1 ap5 hnm
      subst hA
      obtain ⟨was, hwas⟩ : ∃ t : ByteArray, t = ⟨(Dk.bytes f).toArray⟩ := ⟨_, rfl⟩
      obtain ⟨now, hnow⟩ : ∃ t : ByteArray, t = ⟨(Dk.bytes f').toArray⟩ := ⟨_, rfl⟩
      obtain ⟨m0, hm0⟩ : ∃ t, t = f.recs.length := ⟨_, rfl⟩
      obtain ⟨m1, hm1⟩ : ∃ t, t = f'.recs.length := ⟨_, rfl⟩
      obtain ⟨sy, hsy⟩ : ∃ t, t = f.syn := ⟨_, rfl⟩
      have hbz : now.size ≤ 20200 + 35 * 20200 := by
        have h1 := Dk.bytes_len f2'
        have h2 := HGo.out.load
        have h3 : now.size = (Dk.bytes f').length := by rw [hnow]; simp [ByteArray.size]
        omega
      have hex := Dk.bytes_prefix f3
      rw [← hwas, ← hnow] at hex
      have hsz : now.size ≤ was.size := by rw [hwas, hnow]; simpa [ByteArray.size] using f3.length_le
      have HRdT : Hid (∀ W, At W q T D1 → Calls Try.prog 19 #[.pointer (some ⟨q, 0, none⟩), .string n] W fun e w' => e = .returned (.tuple #[.string was, .int .i64 0]) ∧ Below W.heap.size W w') := Lib.hid fun W h => by
        have := HK.out.read W q T D1 n h (by omega)
        rw [r1] at this
        subst hwas; exact this
      have HRd : Hid (∀ W, At W p S' D → Calls Try.prog 19 #[.pointer (some ⟨p, 0, none⟩), .string n] W fun e w' => e = .returned (.tuple #[.string now, .int .i64 0]) ∧ Below W.heap.size W w') := Lib.hid fun W h => by
        have := HK.out.read W p S' D n h (by omega)
        rw [r2] at this
        subst hnow; exact this
      have HRcT : Hid (∀ W, At W q T D1 → Calls Try.prog 20 #[.pointer (some ⟨q, 0, none⟩), .string n] W fun e w' => e = .returned (.tuple #[.int .i64 (m0 : Int), .int .i64 (sy : Int)]) ∧ Below W.heap.size W w') := Lib.hid fun W h => by
        have := HK.out.records W q T D1 n h (by omega)
        rw [q1] at this
        subst hm0 hsy; exact this
      have HRc : Hid (∀ W, At W p S' D → Calls Try.prog 20 #[.pointer (some ⟨p, 0, none⟩), .string n] W fun e w' => e = .returned (.tuple #[.int .i64 (m1 : Int), .int .i64 (m1 : Int)]) ∧ Below W.heap.size W w') := Lib.hid fun W h => by
        have := HK.out.records W p S' D n h (by omega)
        rw [q2] at this
        simp only [f5] at this
        subst hm1; exact this
      obtain ⟨ev, hev⟩ : ∃ E, E = (Dk.append D n ⟨#[120]⟩).1 := ⟨_, rfl⟩
      have HAp : Hid (∀ W, At W p S' D → Calls Try.prog 21 #[.pointer (some ⟨p, 0, none⟩), .string n, .string ⟨#[120]⟩] W fun e w' => e = .returned (.int .i64 (eno ev)) ∧ Now At W w' p S' D') := Lib.hid fun W h => by
        have h3 : (⟨#[120]⟩ : ByteArray).size = 1 := rfl
        have := HK.out.append W p S' D n ⟨#[120]⟩ h (by have := HGo.out.load; omega)
        rw [ap1] at this
        subst hev; exact this
      have HRd2 : Hid (∀ W S, At W p S D' → Calls Try.prog 19 #[.pointer (some ⟨p, 0, none⟩), .string n] W fun e w' => e = .returned (.tuple #[.string ⟨(Dk.read D' n).1.toArray⟩, .int .i64 (eno (Dk.read D' n).2)]) ∧ Below W.heap.size W w') := Lib.hid fun W S h => HK.out.read W p S D' n h (by omega)
      rw [← hev] at ap5
      have HEnd : Hid ((ev = .state ∧ ∀ W S, At W p S D' → Calls Try.prog 19 #[.pointer (some ⟨p, 0, none⟩), .string n] W fun e w' => e = .returned (.tuple #[.string now, .int .i64 0]) ∧ Below W.heap.size W w') ∨
          (ev = .ok ∧ ∀ W S, At W p S D' → Calls Try.prog 19 #[.pointer (some ⟨p, 0, none⟩), .string n] W fun e w' => e = .returned (.tuple #[.string (now ++ ⟨#[120]⟩), .int .i64 0]) ∧ Below W.heap.size W w')) := Lib.hid (by
        rcases ap5 with ⟨e1, e2⟩ | ⟨e1, e2⟩
        · refine .inl ⟨e1, fun W S h => ?_⟩
          have := HRd2.out W S h
          rw [e2] at this
          subst hnow; exact this
        · refine .inr ⟨e1, fun W S h => ?_⟩
          have := HRd2.out W S h
          rw [e2] at this
          have h7 : (⟨(Dk.bytes f' ++ (⟨#[120]⟩ : ByteArray).data.toList).toArray⟩ : ByteArray) = now ++ ⟨#[120]⟩ := by
            rw [hnow]; apply ByteArray.ext; apply Array.toList_inj.1; simp
          rw [← h7]; exact this)
      have HNk := Lib.hid hn
      have d2 : decide (was.size < now.size) = false := by simp; omega
      have d3 : decide (m0 < m1) = false := by simp; omega
      have hx1 : (was.extract 0 now.size).toList = now.toList := by rw [hex]
      have HCell : Hid (∀ W, Below wr.heap.size wr W → W.cell? ⟨b, off + k, none⟩ = some (.string n)) := Lib.hid fun W h => (h.cell (p := ⟨b, off + k, none⟩) hlb).trans hc
      have HNe : Hid (m1 < m0 → (now.toList == was.toList) = false) := Lib.hid fun h => by
        have h1 := f6 (by omega)
        rw [beq_eq_false_iff_ne]
        refine fun h2 => h1 ?_
        rw [ByteArray.toList_eq, ByteArray.toList_eq, hwas, hnow] at h2
        simpa using h2
      have HNow := Lib.hid hnow
      clear f1 f2 f3 f4 f5 f6 f2' r1 r2 q1 q2 ap1 ap2 ap3 ap4 ap5 hload hnm hn hwas hnow hm0 hm1 hsy hex hev hlb
      have x1 := HCell.out _ (Below.refl _ _)
      clear hc
      go_wp2_with fail
      refine (HRdT.out _ HB.out.two.q).mono ?_
      rintro e w12 ⟨rfl, hb⟩
      have HB12 := Lib.hid (And.intro hb (HB.out.more HK.out hb))
      clear x1 hb
      have x1 := HCell.out _ HB12.out.1
      go_wp2_with fail
      refine (HRd.out _ HB12.out.2.two.p).mono ?_
      rintro e w13 ⟨rfl, hb⟩
      have HB13 := Lib.hid (And.intro (bnext HB12.out.1 hb) (HB12.out.2.more HK.out hb))
      clear x1 hb HB12
      have x1 := HCell.out _ HB13.out.1
      go_wp2_with fail
      refine (HRcT.out _ HB13.out.2.two.q).mono ?_
      rintro e w14 ⟨rfl, hb⟩
      have HB14 := Lib.hid (And.intro (bnext HB13.out.1 hb) (HB13.out.2.more HK.out hb))
      clear x1 hb HB13
      have x1 := HCell.out _ HB14.out.1
      go_wp2_with fail
      refine (HRc.out _ HB14.out.2.two.p).mono ?_
      rintro e w15 ⟨rfl, hb⟩
      have HB15 := Lib.hid (And.intro (bnext HB14.out.1 hb) (HB14.out.2.more HK.out hb))
      clear x1 hb HB14
      have x1 := HCell.out _ HB15.out.1
      by_cases hmm : m1 < m0
      · have d4 : decide (m1 < m0) = true := by simp; omega
        have hx5 := HNe.out hmm
        clear hmm
        go_wp2_with fail
        refine (HAp.out _ HB15.out.2.two.p).mono ?_
        rintro e w16 ⟨rfl, hn⟩
        obtain ⟨S5, c1⟩ := HB15.out.2.go HK.out hn
        have HB16 := Lib.hid c1
        clear c1 hn x1
        obtain ⟨b', o', he, _, x1⟩ := HB16.out.lies.str k hlt
        simp only [Option.some.injEq, Addr.mk.injEq, and_true] at he
        obtain ⟨rfl, rfl⟩ := he
        rw [← HNk.out] at x1
        rcases HEnd.out with ⟨hev, hrd⟩ | ⟨hev, hrd⟩
        · subst hev
          have HRe := Lib.hid hrd
          clear hrd
          simp only [eno]
          go_wp2_with fail
          refine (HRe.out _ _ HB16.out.two.p).mono ?_
          rintro e w17 ⟨rfl, hb⟩
          have HB17 := Lib.hid (HB16.out.more HK.out hb)
          clear hb x1
          go_wp2_with fail
          go_roundw
          case rel => exact ⟨k + 1, by omega, by go_num, _, _, HB17.out, HNx.out⟩
          case measure => simp [intOf]; omega
        · subst hev
          have HRe := Lib.hid hrd
          clear hrd
          simp only [eno]
          go_wp2_with fail
          refine (HRe.out _ _ HB16.out.two.p).mono ?_
          rintro e w17 ⟨rfl, hb⟩
          have HB17 := Lib.hid (HB16.out.more HK.out hb)
          clear hb x1
          go_wp2_with fail
          go_roundw
          case rel => exact ⟨k + 1, by omega, by go_num, _, _, HB17.out, HNx.out⟩
          case measure => simp [intOf]; omega
      · have d4 : decide (m1 < m0) = false := by simp; omega
        clear hmm
        go_wp2_with fail
        refine (HAp.out _ HB15.out.2.two.p).mono ?_
        rintro e w16 ⟨rfl, hn⟩
        obtain ⟨S5, c1⟩ := HB15.out.2.go HK.out hn
        have HB16 := Lib.hid c1
        clear c1 hn x1
        obtain ⟨b', o', he, _, x1⟩ := HB16.out.lies.str k hlt
        simp only [Option.some.injEq, Addr.mk.injEq, and_true] at he
        obtain ⟨rfl, rfl⟩ := he
        rw [← HNk.out] at x1
        rcases HEnd.out with ⟨hev, hrd⟩ | ⟨hev, hrd⟩
        · subst hev
          have HRe := Lib.hid hrd
          clear hrd
          simp only [eno]
          go_wp2_with fail
          refine (HRe.out _ _ HB16.out.two.p).mono ?_
          rintro e w17 ⟨rfl, hb⟩
          have HB17 := Lib.hid (HB16.out.more HK.out hb)
          clear hb x1
          go_wp2_with fail
          go_roundw
          case rel => exact ⟨k + 1, by omega, by go_num, _, _, HB17.out, HNx.out⟩
          case measure => simp [intOf]; omega
        · subst hev
          have HRe := Lib.hid hrd
          clear hrd
          simp only [eno]
          go_wp2_with fail
          refine (HRe.out _ _ HB16.out.two.p).mono ?_
          rintro e w17 ⟨rfl, hb⟩
          have HB17 := Lib.hid (HB16.out.more HK.out hb)
          clear hb x1
          go_wp2_with fail
          go_roundw
          case rel => exact ⟨k + 1, by omega, by go_num, _, _, HB17.out, HNx.out⟩
          case measure => simp [intOf]; omega
    · obtain rfl : k = L.length := by omega
      go_wp2_with fail
      refine (HA.out _).mono ?_
      rintro e w12 ⟨rfl, hb⟩
      go_wp2_with fail
      go_ret
      exact ⟨rfl, bnext (bnext HB0.out HB.out.two.b) hb⟩
end
end Go.Proofs.Ytjmnoogaffjdiaa
