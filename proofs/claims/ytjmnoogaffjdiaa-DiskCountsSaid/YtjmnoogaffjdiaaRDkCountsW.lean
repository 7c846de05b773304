/-
  DiskCounts walked. WRITTEN BY wip/tools/gen_dkcounts.py.
-/
import Derived.Test.YtjmnoogaffjdiaaRDkLastsW
import Derived.Deep.DeepCutAuto
import Derived.Deep.CutBlock
set_option linter.unusedSimpArgs false
set_option linter.unusedVariables false
namespace Go.Proofs.Ytjmnoogaffjdiaa
open Go.RowKit
theorem emptyB (s : ByteArray) : s.toList.isEmpty = (s.size == 0) := by
  rw [ByteArray.toList_eq]
  cases h : s.data.toList with
  | nil => have : s.size = 0 := by rw [Lib.size_eq, h]; rfl
           rw [this]; rfl
  | cons a l => have : s.size = l.length + 1 := by rw [Lib.size_eq, h]; rfl
                rw [this]; rfl
def actZ : Array Value := #[.int .u8 0, .string ⟨#[]⟩, .string ⟨#[]⟩, .int .i64 0, .slice none 0 0, .slice none 0 0]
theorem storeAct (X : Array Value) (hs : X.size = 6) (ho : X.all (·.oneCell') = true) (W : World) : (storeCells ⟨W.heap.size, 0, none⟩ X.toList 0).run Try.prog (W.alloc (.cells #[.int .u8 0, .string ⟨#[]⟩, .string ⟨#[]⟩, .int .i64 0, .slice none 0 0, .slice none 0 0] 38)) = .ok () (W.alloc (.cells X 38)) :=
  run_storeCells_new (P := Try.prog) W 38 _ X (by rw [hs]; kernel_rfl) (by rw [hs]; rfl) ho
theorem actOne (g : Ga) : (actC g).all (·.oneCell') = true := by simp [actC, Value.oneCell']
/-- The act with another text. -/
def Ga.with (g : Ga) (b : ByteArray) : Ga := { g with x := { g.x with b := b } }
theorem with_cells (g : Ga) (b : ByteArray) : actC (g.with b) = (actC g).setIfInBounds 2 (.string b) := by simp [actC, Ga.with]
theorem with_given {W : World} {g : Ga} (h : GivenA W g) {b : ByteArray} (hb : b.size ≤ maxLen) : GivenA W (g.with b) := ⟨h.op, h.a, hb, h.n, h.kl, h.tl, h.kn, h.tn, h.km, h.tm⟩
theorem with_same (g : Ga) : g.with g.x.b = g := rfl
namespace Dk
/-- Other texts, of any length, in what is appended. -/
structure Alike (x : Act) (b : ByteArray) : Prop where
  same : x.op ≠ 0 → b = x.b
  none : x.op = 0 → (x.b.size = 0 ↔ b.size = 0)
  small : b.size ≤ 20000
theorem rd_new : Rd D.new D.new := ⟨trivial, rfl, rfl⟩
theorem rd_alike {d e : D} (h : Rd d e) {g : Ga} {b : ByteArray} (ha : Alike g.x b) (h4 : g.x.op ≠ 4) : (does d g.x).1.2 = (does e (g.with b).x).1.2 ∧ Rd (does d g.x).2 (does e (g.with b).x).2 :=
  rd_does h g.x (g.with b).x rfl rfl ha.same ha.none rfl rfl rfl h4
theorem rd_list {d e : D} (h : Rd d e) : list d = list e := rl_names h.files
end Dk
section
variable {At : DkAt}
/-- How the two disks stand behind k acts. -/
structure Run (At : DkAt) (w W : World) (p q : Nat) (xs : List Dk.Act) (k : Nat) : Prop where
  ex : ∃ S T d e, Two At w W p q S T d e ∧ Dk.Rd d e ∧ Dk.load d ≤ Dk.actsLoad (xs.take k) ∧ Dk.load e ≤ 50000 * k
theorem Run.more {w W W' : World} {p q : Nat} {xs : List Dk.Act} {k : Nat} (K : DiskK At) (h : Run At w W p q xs k) (hb : Below W.heap.size W W') : Run At w W' p q xs k := by
  obtain ⟨S, T, d, e, h1, h2⟩ := h.ex
  exact ⟨⟨S, T, d, e, h1.more K hb, h2⟩⟩
theorem Run.below {w W : World} {p q : Nat} {xs : List Dk.Act} {k : Nat} (h : Run At w W p q xs k) : Below w.heap.size w W := by
  obtain ⟨S, T, d, e, h1, h2⟩ := h.ex
  exact h1.b
set_option maxRecDepth 100000 in
set_option maxHeartbeats 32000000 in
theorem diskCounts_walk (K : DiskK At) (w : World) (gs : List Ga) (A : Option Addr) (ca : Nat) (ga : Acts w A gs) (B : Option Addr) (cb : Nat) (os : List ByteArray) (lo : Lies w B (sc os)) (oz : ∀ s ∈ os, s.size ≤ maxLen) (ol : os.length ≤ maxLen) :
    Calls Try.prog 7 #[.slice A gs.length ca, .slice B os.length cb] w fun e w' => e = .returned (.bool true) ∧ Below w.heap.size w w' := by
  have HG := Lib.hid (great_any w gs A ca ga)
  have HA := Lib.hid (awake_any K)
  rcases hgr : Dk.great (xs gs) with _ | _
  case true =>
    rw [hgr] at HG
    clear hgr ga K lo oz ol
    go_enter Try.func7, Try.ntmps7
    go_wp2_with fail
    refine (HG.out).mono ?_
    rintro e w1 ⟨rfl, h1⟩
    have H1 := Lib.hid h1
    clear h1
    go_wp2_with fail
    refine (HA.out _).mono ?_
    rintro e w2 ⟨rfl, h2⟩
    go_wp2_with fail
    go_ret
    exact ⟨rfl, bnext H1.out h2⟩
  rw [hgr] at HG
  obtain ⟨hl100, hl1⟩ := Dk.load_small hgr
  rw [xs_length] at hl100
  have hz0 : Dk.load Dk.D.new = 0 := rfl
  have HK := Lib.hid K
  have HGA := Lib.hid ga
  have HLO := Lib.hid lo
  have HOZ := Lib.hid oz
  have HL1 := Lib.hid hl1
  have HBg : Hid (∀ k, (hk : k < gs.length) → Dk.great (xs gs) = false → (gs[k]).x.b.size ≤ 20000) := Lib.hid fun k hk hh => by
    unfold Dk.great at hh
    simp only [Bool.or_eq_false_iff] at hh
    have h1 := hh.2.1
    rw [List.any_eq_false] at h1
    have h2 := h1 gs[k].x (List.mem_map.2 ⟨_, List.getElem_mem hk, rfl⟩)
    unfold Dk.bigA at h2
    simp only [Bool.or_eq_true, decide_eq_true_eq, not_or] at h2
    omega
  have HGr := Lib.hid hgr
  unfold maxLen at ol
  clear hgr K ga lo oz hl1 hz0
  go_enter Try.func7, Try.ntmps7
  go_wp2_with fail
  refine (HG.out).mono ?_
  rintro e w1 ⟨rfl, h1⟩
  have H1 := Lib.hid h1
  clear h1
  go_wp2_with fail
  refine (HK.out.new _).mono ?_
  rintro e w2 ⟨p, S, rfl, a1, a2, a3⟩
  have H2 := Lib.hid (And.intro a1 (And.intro (bnext H1.out a3) (fun k (hk : S k) => Nat.le_trans H1.out.size (a2 k hk))))
  clear a1 a2 a3
  go_wp2_with fail
  refine (HK.out.new _).mono ?_
  rintro e w3 ⟨q, T, rfl, a1, a2, a3⟩
  have H3 : Hid (Run At w w3 p q (xs gs) 0) := Lib.hid ⟨⟨S, T, _, _, ⟨bnext H2.out.2.1 a3, HK.out.below H2.out.1 a3, a1, H2.out.2.2, fun k hk => Nat.le_trans H2.out.2.1.size (a2 k hk), fun k hk ht => by
    have h1 := HK.out.lt H2.out.1 k hk
    have h2 := a2 k ht
    omega⟩, Dk.rd_new, Nat.zero_le _, Nat.zero_le _⟩⟩
  clear a1 a2 a3 H2
  go_wp2_with fail
  go_loopw [7] (fun i wr => ∃ k : Nat, k ≤ gs.length ∧ i = .int .i64 (k : Int) ∧ Run At w wr p q (xs gs) k) (fun i _ => gs.length - (intOf i).toNat)
  case atStart => exact ⟨0, Nat.zero_le _, rfl, H3.out⟩
  case round =>
    obtain ⟨k, hk, rfl, hrun⟩ := hrel
    have HRun := Lib.hid hrun
    clear hrun
    by_cases hlt : k < gs.length
    · obtain ⟨S', T', d, e, htw, hrd, hld, hle⟩ := HRun.out.ex
      obtain ⟨b, off, hAe, hE⟩ := (HGA.out.lies.below htw.b).act k hlt
      have hg := HGA.out.given gs[k] (List.getElem_mem hlt)
      have hbs := HBg.out k hlt HGr.out
      have hxl : k < (xs gs).length := by rw [xs_length]; exact hlt
      have hA1 := actsLoad_at (xs gs) k hxl
      have hA2 := Dk.actsLoad_succ (xs gs) k hxl
      rw [xs_at gs k hlt] at hA1 hA2
      obtain ⟨g, hgk⟩ : ∃ g, g = gs[k] := ⟨_, rfl⟩
      rw [← hgk] at hE hg hA1 hA2 hbs
      -- what is done, whatever the other text
      have HD : Hid (∀ W, Below wr.heap.size wr W → Calls Try.prog 13 #[.pointer (some ⟨p, 0, none⟩), .agg (actC g)] W fun r w' => r = .returned (.tuple #[.string ⟨(Dk.does d g.x).1.1.toArray⟩, .int .i64 (eno (Dk.does d g.x).1.2)]) ∧ (∀ (j : Nat) (o : Obj), wr.heap.size ≤ j → W.heap[j]? = some o → w'.heap[j]? = some o) ∧ ∃ S2, Two At w w' p q S2 T' (Dk.does d g.x).2 e) := Lib.hid fun W hb => by
        have ht := htw.more HK.out hb
        refine (does_any HK.out W p S' d g ht.p (hg.below ht.b) (Away.of_lt hg.kl (Nat.le_refl _) ht.s) (Away.of_lt hg.tl (Nat.le_refl _) ht.s) (by have := HL1.out; omega)).mono ?_
        rintro r w' ⟨e1, e2⟩
        obtain ⟨S2, h2, _⟩ := ht.go HK.out e2
        exact ⟨e1, fun j o hj ho => e2.ko.row (fun hs => by have := HK.out.lt htw.p j hs; omega) ho, S2, h2⟩
      have HE2 : Hid (∀ (bb : ByteArray), Dk.Alike g.x bb → g.x.op ≠ 4 → ∀ W S2 d2, Two At w W p q S2 T' d2 e → d2 = (Dk.does d g.x).2 → Calls Try.prog 13 #[.pointer (some ⟨q, 0, none⟩), .agg (actC (g.with bb))] W fun r w' => ∃ t, r = .returned (.tuple #[.string t, .int .i64 (eno (Dk.does d g.x).1.2)]) ∧ Run At w w' p q (xs gs) (k + 1)) := Lib.hid fun bb ha h4 W S2 d2 ht hd2 => by
        obtain ⟨r1, r2⟩ := Dk.rd_alike hrd (g := g) ha h4
        have hl2 : Dk.load e + Dk.actLoad (g.with bb).x ≤ 100000000 := by
          have h1 : Dk.actLoad (g.with bb).x = 2 + g.x.a.size + bb.size := rfl
          have h2 : Dk.actLoad g.x = 2 + g.x.a.size + g.x.b.size := rfl
          have h3 := ha.small
          have := HL1.out
          omega
        have gw := with_given hg (b := bb) (by have := ha.small; unfold maxLen; omega)
        refine (does_any HK.out W q T' e (g.with bb) ht.q (gw.below ht.b) (Away.of_lt gw.kl (Nat.le_refl _) ht.t) (Away.of_lt gw.tl (Nat.le_refl _) ht.t) hl2).mono ?_
        rintro r w' ⟨e1, e2⟩
        obtain ⟨T2, h2, _⟩ := ht.swap.go HK.out e2
        refine ⟨_, by rw [r1]; exact e1, ⟨S2, T2, _, _, h2.swap, by rw [hd2]; exact r2, ?_, ?_⟩⟩
        · rw [hd2, hA2]
          have := Dk.load_does (HK.out.inv htw.p) g.x
          omega
        · have h1 := Dk.load_does (HK.out.inv htw.q) (g.with bb).x
          have h2 : Dk.actLoad (g.with bb).x = 2 + g.x.a.size + bb.size := rfl
          have h3 := ha.small
          have h4 : Dk.actLoad g.x = 2 + g.x.a.size + g.x.b.size := rfl
          have := HL1.out
          omega
      have HSk : Hid (∀ W, Below wr.heap.size wr W → Run At w W p q (xs gs) (k + 1)) := Lib.hid fun W hb => ⟨⟨S', T', d, e, htw.more HK.out hb, hrd, by omega, by omega⟩⟩
      have HO : Hid (∀ (hk : k < os.length), ∃ b2 o2, B = some ⟨b2, o2, none⟩ ∧ b2 < wr.heap.size ∧ wr.cell? ⟨b2, o2 + k, none⟩ = some (.string os[k])) := Lib.hid fun hk => (HLO.out.below htw.b).str k hk
      have HRg := Lib.hid hE.rng
      have HZ := Lib.hid (sizeAct g)
      have HBs := Lib.hid hbs
      obtain ⟨ev, hev⟩ : ∃ t, t = eno (Dk.does d g.x).1.2 := ⟨_, rfl⟩
      obtain ⟨sv, hsv⟩ : ∃ t : ByteArray, t = ⟨(Dk.does d g.x).1.1.toArray⟩ := ⟨_, rfl⟩
      rw [← hev] at HE2
      rw [← hev, ← hsv] at HD
      obtain ⟨X, hX⟩ : ∃ X, X = actC g := ⟨_, rfl⟩
      obtain ⟨op, hop⟩ : ∃ t, t = g.x.op := ⟨_, rfl⟩
      have x0 : ∀ h, X[0]'h = .int .u8 (op : Int) := by subst hX hop; exact fun _ => rfl
      have x2 : ∀ h, X[2]'h = .string g.x.b := by subst hX; exact fun _ => rfl
      have hx6 : X.size = 6 := by subst hX; rfl
      have hst := storeAct X hx6 (by subst hX; exact actOne g)
      have hst2 := hst (wr.alloc (.cells X 38))
      rw [World.size_alloc] at hst2
      rw [← hX] at HD HRg HZ
      rw [← hop] at HE2
      have HX := Lib.hid hX
      have HOp := Lib.hid hop
      have HXX : Hid (∀ j, j < X.size → X[0 + j]? = X[j]?) := Lib.hid fun j _ => by rw [Nat.zero_add]
      have HR1 : Hid (∀ W : World, (W.alloc (.cells X 38)).heap[W.heap.size]? = some (.cells X 38 (0, 0))) := Lib.hid fun W => heap_alloc_new W _
      subst hAe
      clear htw hrd hld hle hE hg hA1 hA2 hgk hxl hbs hev hsv hX hop
      by_cases h4 : op = 4
      · subst h4
        go_wp2_with (first | (refine wpList_load_rng rfl 38 _ rfl b (off + k * 6) rfl X _ HRg.out Try.underlying38 rfl HZ.out ?_) | (refine wpList_load_sub rfl 38 _ rfl wr.heap.size 0 rfl 38 X X (0, 0) _ (HR1.out _) HXX.out Try.underlying38 rfl HZ.out ?_))
        go_roundw
        case rel => exact ⟨k + 1, by omega, by go_num, HSk.out _ (bnew (bnew (Below.refl _ _) _) _)⟩
        case measure => simp [intOf]; omega
      have q4 : ((op : Int) == 4) = false := by simp; omega
      by_cases h0 : op = 0
      case neg =>
        have q0 : ((op : Int) == 0) = false := by simp; omega
        go_upto_region 14 with (first | (refine wpList_load_rng rfl 38 _ rfl b (off + k * 6) rfl X _ HRg.out Try.underlying38 rfl HZ.out ?_) | (refine wpList_load_sub rfl 38 _ rfl wr.heap.size 0 rfl 38 X X (0, 0) _ (HR1.out _) HXX.out Try.underlying38 rfl HZ.out ?_))
        have hrx : ((wr.alloc (.cells X 38)).alloc (.cells X 38)).heap[wr.heap.size]? = some (.cells X 38 (0, 0)) := (Below.heap_alloc _ _ _ (by simp)).trans (heap_alloc_new wr _)
        have hry : ((wr.alloc (.cells X 38)).alloc (.cells X 38)).heap[wr.heap.size + 1]? = some (.cells X 38 (0, 0)) := by
          have := heap_alloc_new (wr.alloc (.cells X 38)) (.cells X 38)
          rwa [World.size_alloc] at this
        have hbz : Below wr.heap.size wr ((wr.alloc (.cells X 38)).alloc (.cells X 38)) := bnew (bnew (Below.refl _ _) _) _
        obtain ⟨Y, hY⟩ : ∃ Y, Y = actC (g.with g.x.b) := ⟨_, rfl⟩
        have hyy : X = Y := by rw [hY, HX.out]; rfl
        have hry2 : ((wr.alloc (.cells X 38)).alloc (.cells X 38)).heap[wr.heap.size + 1]? = some (.cells Y 38 (0, 0)) := hry.trans (by rw [hyy])
        have HAl : Hid (Dk.Alike g.x g.x.b) := Lib.hid ⟨fun _ => rfl, fun _ => Iff.rfl, HBs.out⟩
        have HY := Lib.hid hY
        have HZy : Hid ((Try.prog.info? 38).map (·.size) = some Y.size) := Lib.hid (by rw [hY]; exact sizeAct _)
        have HYY : Hid (∀ j, j < Y.size → Y[0 + j]? = Y[j]?) := Lib.hid fun j _ => by rw [Nat.zero_add]
        refine forget (fun Wz => Below wr.heap.size wr Wz ∧ Wz.heap[wr.heap.size]? = some (.cells X 38 (0, 0)) ∧ Wz.heap[wr.heap.size + 1]? = some (.cells Y 38 (0, 0))) ⟨hbz, hrx, hry2⟩ ?_
        clear hbz hrx hry hry2 hyy hY hst hst2
        intro Wz hz
        have Hz := Lib.hid hz
        have k0 := cell_of_row Wz wr.heap.size 0 _ _ _ hz.2.1
        have k0 : Wz.cell? ⟨wr.heap.size, 0, none⟩ = some (.int .u8 (op : Int)) := by rw [k0, Array.getElem?_eq_getElem (by omega), x0]
        clear hz
        go_wp2_with (refine wpList_load_sub rfl 38 _ rfl wr.heap.size 0 rfl 38 X X (0, 0) _ Hz.out.2.1 HXX.out Try.underlying38 rfl HZ.out ?_)
        refine (HD.out _ Hz.out.1).mono ?_
        rintro r w4 ⟨rfl, hrow, S2, h2⟩
        have H4 := Lib.hid h2
        have hy4 : w4.heap[wr.heap.size + 1]? = some (.cells Y 38 (0, 0)) := hrow _ _ (by omega) Hz.out.2.2
        have Hy4 := Lib.hid hy4
        clear h2 k0 hy4 hrow
        go_wp2_with (refine wpList_load_sub rfl 38 _ rfl (wr.heap.size + 1) 0 rfl 38 Y Y (0, 0) _ Hy4.out HYY.out Try.underlying38 rfl HZy.out ?_)
        rw [HY.out]
        refine (HE2.out _ HAl.out (by omega) _ _ _ H4.out rfl).mono ?_
        rintro r w5 ⟨t, rfl, h5⟩
        have H5 := Lib.hid h5
        clear h5
        go_wp2_with fail
        go_roundw
        case rel => exact ⟨k + 1, by omega, by go_num, H5.out⟩
        case measure => simp [intOf]; omega
      have q0 : ((op : Int) == 0) = true := by simp; omega
      have H0 : Hid (g.x.op = 0) := Lib.hid (by rw [← HOp.out]; exact h0)
      by_cases hb0 : g.x.b.size = 0
      · have e0 : g.x.b.toList.isEmpty = true := by rw [emptyB]; simpa using hb0
        go_upto_region 14 with (first | (refine wpList_load_rng rfl 38 _ rfl b (off + k * 6) rfl X _ HRg.out Try.underlying38 rfl HZ.out ?_) | (refine wpList_load_sub rfl 38 _ rfl wr.heap.size 0 rfl 38 X X (0, 0) _ (HR1.out _) HXX.out Try.underlying38 rfl HZ.out ?_))
        have hrx : ((wr.alloc (.cells X 38)).alloc (.cells X 38)).heap[wr.heap.size]? = some (.cells X 38 (0, 0)) := (Below.heap_alloc _ _ _ (by simp)).trans (heap_alloc_new wr _)
        have hry : ((wr.alloc (.cells X 38)).alloc (.cells X 38)).heap[wr.heap.size + 1]? = some (.cells X 38 (0, 0)) := by
          have := heap_alloc_new (wr.alloc (.cells X 38)) (.cells X 38)
          rwa [World.size_alloc] at this
        have hbz : Below wr.heap.size wr ((wr.alloc (.cells X 38)).alloc (.cells X 38)) := bnew (bnew (Below.refl _ _) _) _
        obtain ⟨Y, hY⟩ : ∃ Y, Y = actC (g.with g.x.b) := ⟨_, rfl⟩
        have hyy : X = Y := by rw [hY, HX.out]; rfl
        have hry2 : ((wr.alloc (.cells X 38)).alloc (.cells X 38)).heap[wr.heap.size + 1]? = some (.cells Y 38 (0, 0)) := hry.trans (by rw [hyy])
        have HAl : Hid (Dk.Alike g.x g.x.b) := Lib.hid ⟨fun _ => rfl, fun _ => Iff.rfl, HBs.out⟩
        have HY := Lib.hid hY
        have HZy : Hid ((Try.prog.info? 38).map (·.size) = some Y.size) := Lib.hid (by rw [hY]; exact sizeAct _)
        have HYY : Hid (∀ j, j < Y.size → Y[0 + j]? = Y[j]?) := Lib.hid fun j _ => by rw [Nat.zero_add]
        refine forget (fun Wz => Below wr.heap.size wr Wz ∧ Wz.heap[wr.heap.size]? = some (.cells X 38 (0, 0)) ∧ Wz.heap[wr.heap.size + 1]? = some (.cells Y 38 (0, 0))) ⟨hbz, hrx, hry2⟩ ?_
        clear hbz hrx hry hry2 hyy hY hst hst2
        intro Wz hz
        have Hz := Lib.hid hz
        have k0 := cell_of_row Wz wr.heap.size 0 _ _ _ hz.2.1
        have k0 : Wz.cell? ⟨wr.heap.size, 0, none⟩ = some (.int .u8 (op : Int)) := by rw [k0, Array.getElem?_eq_getElem (by omega), x0]
        clear hz
        go_wp2_with (refine wpList_load_sub rfl 38 _ rfl wr.heap.size 0 rfl 38 X X (0, 0) _ Hz.out.2.1 HXX.out Try.underlying38 rfl HZ.out ?_)
        refine (HD.out _ Hz.out.1).mono ?_
        rintro r w4 ⟨rfl, hrow, S2, h2⟩
        have H4 := Lib.hid h2
        have hy4 : w4.heap[wr.heap.size + 1]? = some (.cells Y 38 (0, 0)) := hrow _ _ (by omega) Hz.out.2.2
        have Hy4 := Lib.hid hy4
        clear h2 k0 hy4 hrow
        go_wp2_with (refine wpList_load_sub rfl 38 _ rfl (wr.heap.size + 1) 0 rfl 38 Y Y (0, 0) _ Hy4.out HYY.out Try.underlying38 rfl HZy.out ?_)
        rw [HY.out]
        refine (HE2.out _ HAl.out (by omega) _ _ _ H4.out rfl).mono ?_
        rintro r w5 ⟨t, rfl, h5⟩
        have H5 := Lib.hid h5
        clear h5
        go_wp2_with fail
        go_roundw
        case rel => exact ⟨k + 1, by omega, by go_num, H5.out⟩
        case measure => simp [intOf]; omega
      have e0 : g.x.b.toList.isEmpty = false := by rw [emptyB]; simpa using hb0
      by_cases hko : k < os.length
      case neg =>
        have o1 : decide (k < os.length) = false := by simpa using hko
        have o1' : decide ((k : Int) < (os.length : Int)) = false := by simp; omega
        go_upto_region 14 with (first | (refine wpList_load_rng rfl 38 _ rfl b (off + k * 6) rfl X _ HRg.out Try.underlying38 rfl HZ.out ?_) | (refine wpList_load_sub rfl 38 _ rfl wr.heap.size 0 rfl 38 X X (0, 0) _ (HR1.out _) HXX.out Try.underlying38 rfl HZ.out ?_))
        have hrx : ((wr.alloc (.cells X 38)).alloc (.cells (X.setIfInBounds 2 (.string ⟨#[122]⟩)) 38)).heap[wr.heap.size]? = some (.cells X 38 (0, 0)) := (Below.heap_alloc _ _ _ (by simp)).trans (heap_alloc_new wr _)
        have hry : ((wr.alloc (.cells X 38)).alloc (.cells (X.setIfInBounds 2 (.string ⟨#[122]⟩)) 38)).heap[wr.heap.size + 1]? = some (.cells (X.setIfInBounds 2 (.string ⟨#[122]⟩)) 38 (0, 0)) := by
          have := heap_alloc_new (wr.alloc (.cells X 38)) (.cells (X.setIfInBounds 2 (.string ⟨#[122]⟩)) 38)
          rwa [World.size_alloc] at this
        have hbz : Below wr.heap.size wr ((wr.alloc (.cells X 38)).alloc (.cells (X.setIfInBounds 2 (.string ⟨#[122]⟩)) 38)) := bnew (bnew (Below.refl _ _) _) _
        obtain ⟨Y, hY⟩ : ∃ Y, Y = actC (g.with ⟨#[122]⟩) := ⟨_, rfl⟩
        have hyy : (X.setIfInBounds 2 (.string ⟨#[122]⟩)) = Y := by rw [hY, with_cells, HX.out]
        have hry2 : ((wr.alloc (.cells X 38)).alloc (.cells (X.setIfInBounds 2 (.string ⟨#[122]⟩)) 38)).heap[wr.heap.size + 1]? = some (.cells Y 38 (0, 0)) := hry.trans (by rw [hyy])
        have HAl : Hid (Dk.Alike g.x ⟨#[122]⟩) := Lib.hid ⟨fun h => absurd H0.out h, fun _ => ⟨fun h => absurd h hb0, fun h => by simp [ByteArray.size] at h⟩, by decide⟩
        have HY := Lib.hid hY
        have HZy : Hid ((Try.prog.info? 38).map (·.size) = some Y.size) := Lib.hid (by rw [hY]; exact sizeAct _)
        have HYY : Hid (∀ j, j < Y.size → Y[0 + j]? = Y[j]?) := Lib.hid fun j _ => by rw [Nat.zero_add]
        refine forget (fun Wz => Below wr.heap.size wr Wz ∧ Wz.heap[wr.heap.size]? = some (.cells X 38 (0, 0)) ∧ Wz.heap[wr.heap.size + 1]? = some (.cells Y 38 (0, 0))) ⟨hbz, hrx, hry2⟩ ?_
        clear hbz hrx hry hry2 hyy hY hst hst2
        intro Wz hz
        have Hz := Lib.hid hz
        have k0 := cell_of_row Wz wr.heap.size 0 _ _ _ hz.2.1
        have k0 : Wz.cell? ⟨wr.heap.size, 0, none⟩ = some (.int .u8 (op : Int)) := by rw [k0, Array.getElem?_eq_getElem (by omega), x0]
        clear hz
        go_wp2_with (refine wpList_load_sub rfl 38 _ rfl wr.heap.size 0 rfl 38 X X (0, 0) _ Hz.out.2.1 HXX.out Try.underlying38 rfl HZ.out ?_)
        refine (HD.out _ Hz.out.1).mono ?_
        rintro r w4 ⟨rfl, hrow, S2, h2⟩
        have H4 := Lib.hid h2
        have hy4 : w4.heap[wr.heap.size + 1]? = some (.cells Y 38 (0, 0)) := hrow _ _ (by omega) Hz.out.2.2
        have Hy4 := Lib.hid hy4
        clear h2 k0 hy4 hrow
        go_wp2_with (refine wpList_load_sub rfl 38 _ rfl (wr.heap.size + 1) 0 rfl 38 Y Y (0, 0) _ Hy4.out HYY.out Try.underlying38 rfl HZy.out ?_)
        rw [HY.out]
        refine (HE2.out _ HAl.out (by omega) _ _ _ H4.out rfl).mono ?_
        rintro r w5 ⟨t, rfl, h5⟩
        have H5 := Lib.hid h5
        clear h5
        go_wp2_with fail
        go_roundw
        case rel => exact ⟨k + 1, by omega, by go_num, H5.out⟩
        case measure => simp [intOf]; omega
      have o1 : decide (k < os.length) = true := by simpa using hko
      obtain ⟨b2, o2, hB, hb2, ho⟩ := HO.out hko
      have hoz := HOZ.out os[k] (List.getElem_mem hko)
      obtain ⟨s, hs⟩ : ∃ s, s = os[k] := ⟨_, rfl⟩
      rw [← hs] at ho hoz
      unfold maxLen at hoz
      subst hB
      clear hs
      by_cases hs0 : s.size = 0
      · have o2e : s.toList.isEmpty = true := by rw [emptyB]; simpa using hs0
        go_upto_region 14 with (first | (refine wpList_load_rng rfl 38 _ rfl b (off + k * 6) rfl X _ HRg.out Try.underlying38 rfl HZ.out ?_) | (refine wpList_load_sub rfl 38 _ rfl wr.heap.size 0 rfl 38 X X (0, 0) _ (HR1.out _) HXX.out Try.underlying38 rfl HZ.out ?_))
        have hrx : ((wr.alloc (.cells X 38)).alloc (.cells (X.setIfInBounds 2 (.string ⟨#[122]⟩)) 38)).heap[wr.heap.size]? = some (.cells X 38 (0, 0)) := (Below.heap_alloc _ _ _ (by simp)).trans (heap_alloc_new wr _)
        have hry : ((wr.alloc (.cells X 38)).alloc (.cells (X.setIfInBounds 2 (.string ⟨#[122]⟩)) 38)).heap[wr.heap.size + 1]? = some (.cells (X.setIfInBounds 2 (.string ⟨#[122]⟩)) 38 (0, 0)) := by
          have := heap_alloc_new (wr.alloc (.cells X 38)) (.cells (X.setIfInBounds 2 (.string ⟨#[122]⟩)) 38)
          rwa [World.size_alloc] at this
        have hbz : Below wr.heap.size wr ((wr.alloc (.cells X 38)).alloc (.cells (X.setIfInBounds 2 (.string ⟨#[122]⟩)) 38)) := bnew (bnew (Below.refl _ _) _) _
        obtain ⟨Y, hY⟩ : ∃ Y, Y = actC (g.with ⟨#[122]⟩) := ⟨_, rfl⟩
        have hyy : (X.setIfInBounds 2 (.string ⟨#[122]⟩)) = Y := by rw [hY, with_cells, HX.out]
        have hry2 : ((wr.alloc (.cells X 38)).alloc (.cells (X.setIfInBounds 2 (.string ⟨#[122]⟩)) 38)).heap[wr.heap.size + 1]? = some (.cells Y 38 (0, 0)) := hry.trans (by rw [hyy])
        have HAl : Hid (Dk.Alike g.x ⟨#[122]⟩) := Lib.hid ⟨fun h => absurd H0.out h, fun _ => ⟨fun h => absurd h hb0, fun h => by simp [ByteArray.size] at h⟩, by decide⟩
        have HY := Lib.hid hY
        have HZy : Hid ((Try.prog.info? 38).map (·.size) = some Y.size) := Lib.hid (by rw [hY]; exact sizeAct _)
        have HYY : Hid (∀ j, j < Y.size → Y[0 + j]? = Y[j]?) := Lib.hid fun j _ => by rw [Nat.zero_add]
        refine forget (fun Wz => Below wr.heap.size wr Wz ∧ Wz.heap[wr.heap.size]? = some (.cells X 38 (0, 0)) ∧ Wz.heap[wr.heap.size + 1]? = some (.cells Y 38 (0, 0))) ⟨hbz, hrx, hry2⟩ ?_
        clear hbz hrx hry hry2 hyy hY hst hst2
        intro Wz hz
        have Hz := Lib.hid hz
        have k0 := cell_of_row Wz wr.heap.size 0 _ _ _ hz.2.1
        have k0 : Wz.cell? ⟨wr.heap.size, 0, none⟩ = some (.int .u8 (op : Int)) := by rw [k0, Array.getElem?_eq_getElem (by omega), x0]
        clear hz
        go_wp2_with (refine wpList_load_sub rfl 38 _ rfl wr.heap.size 0 rfl 38 X X (0, 0) _ Hz.out.2.1 HXX.out Try.underlying38 rfl HZ.out ?_)
        refine (HD.out _ Hz.out.1).mono ?_
        rintro r w4 ⟨rfl, hrow, S2, h2⟩
        have H4 := Lib.hid h2
        have hy4 : w4.heap[wr.heap.size + 1]? = some (.cells Y 38 (0, 0)) := hrow _ _ (by omega) Hz.out.2.2
        have Hy4 := Lib.hid hy4
        clear h2 k0 hy4 hrow
        go_wp2_with (refine wpList_load_sub rfl 38 _ rfl (wr.heap.size + 1) 0 rfl 38 Y Y (0, 0) _ Hy4.out HYY.out Try.underlying38 rfl HZy.out ?_)
        rw [HY.out]
        refine (HE2.out _ HAl.out (by omega) _ _ _ H4.out rfl).mono ?_
        rintro r w5 ⟨t, rfl, h5⟩
        have H5 := Lib.hid h5
        clear h5
        go_wp2_with fail
        go_roundw
        case rel => exact ⟨k + 1, by omega, by go_num, H5.out⟩
        case measure => simp [intOf]; omega
      have o2e : s.toList.isEmpty = false := by rw [emptyB]; simpa using hs0
      by_cases hs2 : s.size < 20000
      case neg =>
        have o3 : decide ((s.size : Int) < 20000) = false := by simp; omega
        go_upto_region 14 with (first | (refine wpList_load_rng rfl 38 _ rfl b (off + k * 6) rfl X _ HRg.out Try.underlying38 rfl HZ.out ?_) | (refine wpList_load_sub rfl 38 _ rfl wr.heap.size 0 rfl 38 X X (0, 0) _ (HR1.out _) HXX.out Try.underlying38 rfl HZ.out ?_))
        have hrx : ((wr.alloc (.cells X 38)).alloc (.cells (X.setIfInBounds 2 (.string ⟨#[122]⟩)) 38)).heap[wr.heap.size]? = some (.cells X 38 (0, 0)) := (Below.heap_alloc _ _ _ (by simp)).trans (heap_alloc_new wr _)
        have hry : ((wr.alloc (.cells X 38)).alloc (.cells (X.setIfInBounds 2 (.string ⟨#[122]⟩)) 38)).heap[wr.heap.size + 1]? = some (.cells (X.setIfInBounds 2 (.string ⟨#[122]⟩)) 38 (0, 0)) := by
          have := heap_alloc_new (wr.alloc (.cells X 38)) (.cells (X.setIfInBounds 2 (.string ⟨#[122]⟩)) 38)
          rwa [World.size_alloc] at this
        have hbz : Below wr.heap.size wr ((wr.alloc (.cells X 38)).alloc (.cells (X.setIfInBounds 2 (.string ⟨#[122]⟩)) 38)) := bnew (bnew (Below.refl _ _) _) _
        obtain ⟨Y, hY⟩ : ∃ Y, Y = actC (g.with ⟨#[122]⟩) := ⟨_, rfl⟩
        have hyy : (X.setIfInBounds 2 (.string ⟨#[122]⟩)) = Y := by rw [hY, with_cells, HX.out]
        have hry2 : ((wr.alloc (.cells X 38)).alloc (.cells (X.setIfInBounds 2 (.string ⟨#[122]⟩)) 38)).heap[wr.heap.size + 1]? = some (.cells Y 38 (0, 0)) := hry.trans (by rw [hyy])
        have HAl : Hid (Dk.Alike g.x ⟨#[122]⟩) := Lib.hid ⟨fun h => absurd H0.out h, fun _ => ⟨fun h => absurd h hb0, fun h => by simp [ByteArray.size] at h⟩, by decide⟩
        have HY := Lib.hid hY
        have HZy : Hid ((Try.prog.info? 38).map (·.size) = some Y.size) := Lib.hid (by rw [hY]; exact sizeAct _)
        have HYY : Hid (∀ j, j < Y.size → Y[0 + j]? = Y[j]?) := Lib.hid fun j _ => by rw [Nat.zero_add]
        refine forget (fun Wz => Below wr.heap.size wr Wz ∧ Wz.heap[wr.heap.size]? = some (.cells X 38 (0, 0)) ∧ Wz.heap[wr.heap.size + 1]? = some (.cells Y 38 (0, 0))) ⟨hbz, hrx, hry2⟩ ?_
        clear hbz hrx hry hry2 hyy hY hst hst2
        intro Wz hz
        have Hz := Lib.hid hz
        have k0 := cell_of_row Wz wr.heap.size 0 _ _ _ hz.2.1
        have k0 : Wz.cell? ⟨wr.heap.size, 0, none⟩ = some (.int .u8 (op : Int)) := by rw [k0, Array.getElem?_eq_getElem (by omega), x0]
        clear hz
        go_wp2_with (refine wpList_load_sub rfl 38 _ rfl wr.heap.size 0 rfl 38 X X (0, 0) _ Hz.out.2.1 HXX.out Try.underlying38 rfl HZ.out ?_)
        refine (HD.out _ Hz.out.1).mono ?_
        rintro r w4 ⟨rfl, hrow, S2, h2⟩
        have H4 := Lib.hid h2
        have hy4 : w4.heap[wr.heap.size + 1]? = some (.cells Y 38 (0, 0)) := hrow _ _ (by omega) Hz.out.2.2
        have Hy4 := Lib.hid hy4
        clear h2 k0 hy4 hrow
        go_wp2_with (refine wpList_load_sub rfl 38 _ rfl (wr.heap.size + 1) 0 rfl 38 Y Y (0, 0) _ Hy4.out HYY.out Try.underlying38 rfl HZy.out ?_)
        rw [HY.out]
        refine (HE2.out _ HAl.out (by omega) _ _ _ H4.out rfl).mono ?_
        rintro r w5 ⟨t, rfl, h5⟩
        have H5 := Lib.hid h5
        clear h5
        go_wp2_with fail
        go_roundw
        case rel => exact ⟨k + 1, by omega, by go_num, H5.out⟩
        case measure => simp [intOf]; omega
      have o3 : decide ((s.size : Int) < 20000) = true := by simp; omega
      go_upto_region 14 with (first | (refine wpList_load_rng rfl 38 _ rfl b (off + k * 6) rfl X _ HRg.out Try.underlying38 rfl HZ.out ?_) | (refine wpList_load_sub rfl 38 _ rfl wr.heap.size 0 rfl 38 X X (0, 0) _ (HR1.out _) HXX.out Try.underlying38 rfl HZ.out ?_))
      have hrx : ((wr.alloc (.cells X 38)).alloc (.cells (X.setIfInBounds 2 (.string s)) 38)).heap[wr.heap.size]? = some (.cells X 38 (0, 0)) := (Below.heap_alloc _ _ _ (by simp)).trans (heap_alloc_new wr _)
      have hry : ((wr.alloc (.cells X 38)).alloc (.cells (X.setIfInBounds 2 (.string s)) 38)).heap[wr.heap.size + 1]? = some (.cells (X.setIfInBounds 2 (.string s)) 38 (0, 0)) := by
        have := heap_alloc_new (wr.alloc (.cells X 38)) (.cells (X.setIfInBounds 2 (.string s)) 38)
        rwa [World.size_alloc] at this
      have hbz : Below wr.heap.size wr ((wr.alloc (.cells X 38)).alloc (.cells (X.setIfInBounds 2 (.string s)) 38)) := bnew (bnew (Below.refl _ _) _) _
      obtain ⟨Y, hY⟩ : ∃ Y, Y = actC (g.with s) := ⟨_, rfl⟩
      have hyy : (X.setIfInBounds 2 (.string s)) = Y := by rw [hY, with_cells, HX.out]
      have hry2 : ((wr.alloc (.cells X 38)).alloc (.cells (X.setIfInBounds 2 (.string s)) 38)).heap[wr.heap.size + 1]? = some (.cells Y 38 (0, 0)) := hry.trans (by rw [hyy])
      have HAl : Hid (Dk.Alike g.x s) := Lib.hid ⟨fun h => absurd H0.out h, fun _ => ⟨fun h => absurd h hb0, fun h => absurd h hs0⟩, by omega⟩
      have HY := Lib.hid hY
      have HZy : Hid ((Try.prog.info? 38).map (·.size) = some Y.size) := Lib.hid (by rw [hY]; exact sizeAct _)
      have HYY : Hid (∀ j, j < Y.size → Y[0 + j]? = Y[j]?) := Lib.hid fun j _ => by rw [Nat.zero_add]
      refine forget (fun Wz => Below wr.heap.size wr Wz ∧ Wz.heap[wr.heap.size]? = some (.cells X 38 (0, 0)) ∧ Wz.heap[wr.heap.size + 1]? = some (.cells Y 38 (0, 0))) ⟨hbz, hrx, hry2⟩ ?_
      clear hbz hrx hry hry2 hyy hY hst hst2
      intro Wz hz
      have Hz := Lib.hid hz
      have k0 := cell_of_row Wz wr.heap.size 0 _ _ _ hz.2.1
      have k0 : Wz.cell? ⟨wr.heap.size, 0, none⟩ = some (.int .u8 (op : Int)) := by rw [k0, Array.getElem?_eq_getElem (by omega), x0]
      clear hz
      go_wp2_with (refine wpList_load_sub rfl 38 _ rfl wr.heap.size 0 rfl 38 X X (0, 0) _ Hz.out.2.1 HXX.out Try.underlying38 rfl HZ.out ?_)
      refine (HD.out _ Hz.out.1).mono ?_
      rintro r w4 ⟨rfl, hrow, S2, h2⟩
      have H4 := Lib.hid h2
      have hy4 : w4.heap[wr.heap.size + 1]? = some (.cells Y 38 (0, 0)) := hrow _ _ (by omega) Hz.out.2.2
      have Hy4 := Lib.hid hy4
      clear h2 k0 hy4 hrow
      go_wp2_with (refine wpList_load_sub rfl 38 _ rfl (wr.heap.size + 1) 0 rfl 38 Y Y (0, 0) _ Hy4.out HYY.out Try.underlying38 rfl HZy.out ?_)
      rw [HY.out]
      refine (HE2.out _ HAl.out (by omega) _ _ _ H4.out rfl).mono ?_
      rintro r w5 ⟨t, rfl, h5⟩
      have H5 := Lib.hid h5
      clear h5
      go_wp2_with fail
      go_roundw
      case rel => exact ⟨k + 1, by omega, by go_num, H5.out⟩
      case measure => simp [intOf]; omega
    · obtain rfl : k = gs.length := by omega
      obtain ⟨S', T', d, e, htw, hrd, hld, hle⟩ := HRun.out.ex
      have HTw := Lib.hid htw
      obtain ⟨L, hL⟩ : ∃ L, L = Dk.list d := ⟨_, rfl⟩
      have hLe : Dk.list e = L := by rw [hL, Dk.rd_list hrd]
      have HLl : Hid (L.length ≤ 100000000) := Lib.hid (by rw [hL]; exact Nat.le_trans (Dk.list_len d) (HK.out.load htw.p))
      have HNm : Hid (∀ k, (hk : k < L.length) → L[k].size ≤ 100000000) := Lib.hid fun k hk => by subst hL; exact Nat.le_trans (Dk.name_ok (HK.out.inv htw.p) hk) (by omega)
      have HListP : Hid (∀ W, At W p S' d → Calls Try.prog 25 #[.pointer (some ⟨p, 0, none⟩)] W fun e w' => ∃ A cap, e = .returned (.slice A L.length cap) ∧ Lies w' A (sc L) ∧ Below W.heap.size W w') := Lib.hid fun W h => by
        subst hL
        exact (HK.out.list W p S' d h).mono fun e w' ⟨A, cap, e1, e2, _, e3⟩ => ⟨A, cap, e1, e2, e3⟩
      have HListQ : Hid (∀ W, At W q T' e → Calls Try.prog 25 #[.pointer (some ⟨q, 0, none⟩)] W fun e w' => ∃ A cap, e = .returned (.slice A L.length cap) ∧ Lies w' A (sc L) ∧ Below W.heap.size W w') := Lib.hid fun W h => by
        have := HK.out.list W q T' e h
        rw [hLe] at this
        exact this.mono fun e w' ⟨A, cap, e1, e2, _, e3⟩ => ⟨A, cap, e1, e2, e3⟩
      have HDownP : Hid (∀ W, At W p S' d → Calls Try.prog 27 #[.pointer (some ⟨p, 0, none⟩)] W fun r w' => r = .returned (.bool d.off) ∧ Below W.heap.size W w') := Lib.hid fun W h => HK.out.down W p S' d h
      have HDownQ : Hid (∀ W, At W q T' e → Calls Try.prog 27 #[.pointer (some ⟨q, 0, none⟩)] W fun r w' => r = .returned (.bool d.off) ∧ Below W.heap.size W w') := Lib.hid fun W h => by rw [hrd.off]; exact HK.out.down W q T' e h
      have HFuP : Hid (∀ W, At W p S' d → Calls Try.prog 26 #[.pointer (some ⟨p, 0, none⟩)] W fun r w' => r = .returned (.int .i64 (d.left : Int)) ∧ Below W.heap.size W w') := Lib.hid fun W h => HK.out.fused W p S' d h
      have HFuQ : Hid (∀ W, At W q T' e → Calls Try.prog 26 #[.pointer (some ⟨q, 0, none⟩)] W fun r w' => r = .returned (.int .i64 (d.left : Int)) ∧ Below W.heap.size W w') := Lib.hid fun W h => by rw [hrd.left]; exact HK.out.fused W q T' e h
      have HRcP : Hid (∀ W (n : ByteArray), n.size ≤ 100000000 → At W p S' d → Calls Try.prog 20 #[.pointer (some ⟨p, 0, none⟩), .string n] W fun r w' => r = .returned (.tuple #[.int .i64 ((Dk.records d n).1 : Int), .int .i64 ((Dk.records d n).2 : Int)]) ∧ Below W.heap.size W w') := Lib.hid fun W n hn h => HK.out.records W p S' d n h hn
      have HRcQ : Hid (∀ W (n : ByteArray), n.size ≤ 100000000 → At W q T' e → Calls Try.prog 20 #[.pointer (some ⟨q, 0, none⟩), .string n] W fun r w' => r = .returned (.tuple #[.int .i64 ((Dk.records d n).1 : Int), .int .i64 ((Dk.records d n).2 : Int)]) ∧ Below W.heap.size W w') := Lib.hid fun W n hn h => by rw [Dk.rd_records hrd]; exact HK.out.records W q T' e n h hn
      clear htw hrd hld hle hL hLe
      have hl8 := HLl.out
      have n1 : ((L.length : Int) != (L.length : Int)) = false := by simp
      go_wp2_with fail
      refine (HListP.out _ HTw.out.p).mono ?_
      rintro r v1 ⟨A1, ca1, rfl, hl1, hb1⟩
      have HL1 := Lib.hid hl1
      have HB1 := Lib.hid (HTw.out.more HK.out hb1)
      clear hl1 hb1
      go_wp2_with fail
      refine (HListQ.out _ HB1.out.q).mono ?_
      rintro r v2 ⟨A2, ca2, rfl, hl2, hb2⟩
      have HL2 := Lib.hid (And.intro (HL1.out.below hb2) hl2)
      have HB2 := Lib.hid (HB1.out.more HK.out hb2)
      clear hl2 hb2 HL1 HB1
      go_wp2_with fail
      refine (HDownP.out _ HB2.out.p).mono ?_
      rintro r v3 ⟨rfl, hb⟩
      have HB3 := Lib.hid (And.intro hb (HB2.out.more HK.out hb))
      clear hb
      go_wp2_with fail
      refine (HDownQ.out _ HB3.out.2.q).mono ?_
      rintro r v4 ⟨rfl, hb⟩
      have HB4 := Lib.hid (And.intro (bnext HB3.out.1 hb) (HB3.out.2.more HK.out hb))
      clear hb HB3
      go_wp2_with fail
      refine (HFuP.out _ HB4.out.2.p).mono ?_
      rintro r v5 ⟨rfl, hb⟩
      have HB5 := Lib.hid (And.intro (bnext HB4.out.1 hb) (HB4.out.2.more HK.out hb))
      clear hb HB4
      go_wp2_with fail
      refine (HFuQ.out _ HB5.out.2.q).mono ?_
      rintro r v6 ⟨rfl, hb⟩
      have HB6 := Lib.hid (And.intro (bnext HB5.out.1 hb) (HB5.out.2.more HK.out hb))
      clear hb HB5
      go_wp2_with fail
      go_loopw [16] (fun i wr => ∃ k : Nat, k ≤ L.length ∧ i = .int .i64 (k : Int) ∧ Below v2.heap.size v2 wr ∧ Two At w wr p q S' T' d e) (fun i _ => L.length - (intOf i).toNat)
      case atStart => exact ⟨0, Nat.zero_le _, rfl, HB6.out⟩
      case round =>
        obtain ⟨k, hk, rfl, hb, htw⟩ := hrel
        have Hb := Lib.hid hb
        have Hw := Lib.hid htw
        clear hb htw
        by_cases hlt : k < L.length
        · obtain ⟨b1, o1, hA, lt1, c1⟩ := HL2.out.1.str k hlt
          obtain ⟨b2, o2, hB, lt2, c2⟩ := HL2.out.2.str k hlt
          have hnz := HNm.out k hlt
          obtain ⟨s, hs⟩ : ∃ s, s = L[k] := ⟨_, rfl⟩
          rw [← hs] at c1 c2 hnz
          subst hA hB
          have HC : Hid (∀ W, Below v2.heap.size v2 W → W.cell? ⟨b1, o1 + k, none⟩ = some (.string s) ∧ W.cell? ⟨b2, o2 + k, none⟩ = some (.string s)) := Lib.hid fun W h => ⟨(h.cell (p := ⟨b1, o1 + k, none⟩) lt1).trans c1, (h.cell (p := ⟨b2, o2 + k, none⟩) lt2).trans c2⟩
          have HN := Lib.hid hnz
          clear c1 c2 lt1 lt2 hs hnz
          obtain ⟨x1, x2⟩ := HC.out _ Hb.out
          have HQ1 := Lib.hid (fun W => HRcP.out W s HN.out)
          have HQ2 := Lib.hid (fun W => HRcQ.out W s HN.out)
          obtain ⟨ra, hra⟩ : ∃ ra, ra = (Dk.records d s).1 := ⟨_, rfl⟩
          obtain ⟨rb, hrb⟩ : ∃ ra, ra = (Dk.records d s).2 := ⟨_, rfl⟩
          rw [← hra, ← hrb] at HQ1 HQ2
          clear hra hrb
          go_wp2_with fail
          refine (HQ1.out _ Hw.out.p).mono ?_
          rintro r w7 ⟨rfl, h7⟩
          have H7 := Lib.hid (And.intro (bnext Hb.out h7) (Hw.out.more HK.out h7))
          clear h7 x1 x2
          obtain ⟨x1, x2⟩ := HC.out _ H7.out.1
          go_wp2_with fail
          refine (HQ2.out _ H7.out.2.q).mono ?_
          rintro r w8 ⟨rfl, h8⟩
          have H8 := Lib.hid (And.intro (bnext H7.out.1 h8) (H7.out.2.more HK.out h8))
          clear h8 x1 x2
          obtain ⟨x1, x2⟩ := HC.out _ H8.out.1
          go_wp2_with fail
          go_quiet (fail)
          go_wp2_with fail
          go_roundw
          case rel => exact ⟨k + 1, by omega, by go_num, below_drewN H8.out.1 _, H8.out.2.more HK.out (below_drewN (Below.refl _ _) _)⟩
          case measure => simp [intOf]; omega
        · obtain rfl : k = L.length := by omega
          go_wp2_with fail
          refine (HA.out _).mono ?_
          rintro r w9 ⟨rfl, hb⟩
          go_wp2_with fail
          go_ret
          exact ⟨rfl, bnext Hw.out.b hb⟩
end
end Go.Proofs.Ytjmnoogaffjdiaa
