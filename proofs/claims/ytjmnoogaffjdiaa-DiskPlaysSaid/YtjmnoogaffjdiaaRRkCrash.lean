/-
  The document's disk: Crash walked. first WRITTEN BY a program, then by hand.
-/
import Derived.Test.YtjmnoogaffjdiaaRRkLeft
import Derived.Test.YtjmnoogaffjdiaaRRkPut2
set_option linter.unusedSimpArgs false
set_option linter.unusedVariables false
namespace Go.Proofs.Ytjmnoogaffjdiaa
open Go.RowKit
theorem storeFl (x : Fx) (W : World) : (storeCells ⟨W.heap.size, 0, none⟩ (flC x).toList 0).run Try.prog (W.alloc (.cells #[.string ⟨#[]⟩, .slice none 0 0, .int .i64 0, .bool false, .string ⟨#[]⟩] 65)) = .ok () (W.alloc (.cells (flC x) 65)) :=
  run_storeCells_new (P := Try.prog) W 65 _ (flC x) (sizeFl x) rfl (flOne x)
/-- A file of the new row. -/
structure FOk (W : World) (p : Nat) (v : Value) (y : Fx) : Prop where
  lies : Lies W y.ra (sc y.f.recs)
  ap : Off y p
  room : y.f.recs.length ≤ y.rc
  av : ∀ b, v.ownBlock = some b → Off y b
theorem FOk.grown {W W' : World} {p : Nat} {v v' : Value} {y : Fx} (h : FOk W p v y) (hb : Below W.heap.size W W') (hv : ∀ k, v'.ownBlock = some k → v.ownBlock = some k ∨ W.heap.size ≤ k) : FOk W' p v' y :=
  ⟨h.lies.below hb, h.ap, h.room, fun b hb2 => by
    rcases hv b hb2 with h1 | h1
    · exact h.av b h1
    · intro b2 o2 hr he hbb
      rcases h.lies with h2 | ⟨b3, o3, h3, hlt, _⟩
      · have := sc_length y.f.recs
        rw [h2] at this
        exact hr (List.eq_nil_of_length_eq_zero this.symm)
      · rw [he] at h3
        simp only [Option.some.injEq, Addr.mk.injEq, and_true] at h3
        omega⟩
/-- What stands in a row of one's own is written beside it. -/
theorem FOk.own {W W' : World} {p : Nat} {v : Value} {y : Fx} (h : FOk W p v y) {g : Nat} (hv : v.ownBlock = some g) (hk : Ko (fun k => k = g) W W') : FOk W' p v y :=
  ⟨h.lies.ko (fun b o hne he hs => h.av g hv b o (fun hh => hne (by rw [hh]; rfl)) he hs) hk, h.ap, h.room, h.av⟩
theorem Ko.of_grown {W W' : World} {v : Value} {g : Nat} (hv : v.ownBlock = some g) (hg : W.grownBy W' v.ownBlock) : Ko (fun k => k = g) W W' :=
  ⟨hg.os, hg.tape, hg.output, hg.size, fun i hi hn => hg.block i hi (fun h => by rw [hv] at h; injection h with h; exact hn h)⟩
theorem FOk.next {W W' : World} {p : Nat} {v v' : Value} {y : Fx} (h : FOk W p v y) (hg : W.grownBy W' v.ownBlock) (hv : ∀ k, v'.ownBlock = some k → v.ownBlock = some k ∨ W.heap.size ≤ k) : FOk W' p v' y := by
  have h2 : FOk W' p v y := by
    cases hb : v.ownBlock with
    | none => exact h.grown ⟨hg.os, hg.tape, hg.output, hg.size, fun i hi => hg.block i hi (by rw [hb]; simp)⟩ (fun k hk => .inl hk)
    | some g => exact h.own hb (Ko.of_grown hb hg)
  have h3 := h.grown (Below.refl _ _) hv
  exact ⟨h2.lies, h2.ap, h2.room, h3.av⟩
/-- A row made anew is let in: its files may be new too. -/
theorem RI.renew2 {W wr : World} {p : Nat} {xs ys : List Fx} {A : Option Addr} {cap : Nat} {off : Bool} {left : Nat} (h : RI W p xs A cap off left) (hb : Below W.heap.size W wr) {v : Value}
    (hown : wr.ownsRow W.heap.size 65 5 v ys.length (fc ys)) (hl : ∀ y ∈ ys, FOk wr p v y) :
    ∃ A' cap', RI (wr.setCell ⟨p, 0, none⟩ v) p ys A' cap' off left ∧ Ko (atP p) W (wr.setCell ⟨p, 0, none⟩ v) ∧ ∀ b o, A' = some ⟨b, o, none⟩ → W.heap.size ≤ b := by
  obtain ⟨A', cap', rfl, hA⟩ := own_slice hown
  have hp := h.lt
  have hpb : wr.heap[p]? = W.heap[p]? := hb.block p hp
  have hk : Ko (atP p) W (wr.setCell ⟨p, 0, none⟩ (.slice A' ys.length cap')) := (Ko.bel (S := atP p) hb).setp 0 _
  have hk2 : Ko (atP p) wr (wr.setCell ⟨p, 0, none⟩ (.slice A' ys.length cap')) := (Ko.refl _ _).setp 0 _
  have hne : (Value.slice A' ys.length cap').ownBlock ≠ some p := fun he => by
    have := (own_lt hown he).2
    omega
  refine ⟨A', cap', ⟨heap_setCell_same wr p 0 _ _ _ (hpb.trans h.row), own_zero (own_setCell hown hne _), fun y hy => (hl y hy).lies.ko (fun b o hv he hs => (hl y hy).ap b o (fun hh => hv (by rw [hh]; rfl)) he hs) hk2, fun y hy => (hl y hy).ap, fun y hy b o he => (hl y hy).av b (hA b o he).2, fun b o he hbp => ?_, fun y hy => (hl y hy).room⟩, hk, fun b o he => (hA b o he).1⟩
  have h1 := (hA b o he).1
  omega
/-- Where a file's records lie: where those of an elder one lay, or in new memory. -/
def Src (xs : List Fx) (B : Nat) (y : Fx) : Prop := (∃ x ∈ xs, y.f.recs = x.f.recs ∧ y.ra = x.ra) ∨ ∀ b o, y.f.recs ≠ [] → y.ra = some ⟨b, o, none⟩ → B ≤ b
/-- What a crash leaves of the first files. -/
structure CMid (B : Nat) (ks ts : List Int) (xs ys : List Fx) (i j : Nat) : Prop where
  eq : fls ys = Dk.crashL ks ts 0 (fls (xs.take i))
  j : j = Dk.dirty (fls (xs.take i))
  src : ∀ y ∈ ys, Src xs B y
theorem crashL_snoc (ks ts : List Int) (l : List Dk.Fl) (f : Dk.Fl) (j : Nat) : Dk.crashL ks ts j (l ++ [f]) = Dk.crashL ks ts j l ++ Dk.crashL ks ts (j + Dk.dirty l) [f] := by
  have h := Dk.crashL_take ks ts (l ++ [f]) j l.length
  rw [List.take_left, List.drop_left] at h
  exact h.symm
theorem CMid.next {B : Nat} {ks ts : List Int} {xs ys : List Fx} {i j : Nat} (h : CMid B ks ts xs ys i j) (hi : i < xs.length) {y : Fx} (hy : y.f = if xs[i].f.syn < xs[i].f.recs.length then Dk.leave xs[i].f ks ts j else xs[i].f) (hs : Src xs B y) :
    CMid B ks ts xs (ys ++ [y]) (i + 1) (if xs[i].f.syn < xs[i].f.recs.length then j + 1 else j) := by
  have h1 : fls (xs.take (i + 1)) = fls (xs.take i) ++ [xs[i].f] := by
    unfold fls; rw [List.take_succ_eq_append_getElem hi, List.map_append]; rfl
  refine ⟨?_, ?_, fun z hz => ?_⟩
  · rw [h1, crashL_snoc, ← h.eq]
    show fls (ys ++ [y]) = _
    rw [show fls (ys ++ [y]) = fls ys ++ [y.f] by unfold fls; rw [List.map_append]; rfl, Nat.zero_add, ← h.j, hy]
    congr 1
    by_cases hl : xs[i].f.syn < xs[i].f.recs.length
    · rw [Dk.crashL_yes hl, if_pos hl]; rfl
    · rw [Dk.crashL_no hl, if_neg hl]; rfl
  · rw [h1]
    unfold Dk.dirty
    rw [List.filter_append, List.length_append]
    have hj := h.j
    unfold Dk.dirty at hj
    rw [← hj]
    by_cases hl : xs[i].f.syn < xs[i].f.recs.length
    · rw [if_pos hl]; simp [hl]
    · rw [if_neg hl]; simp [hl]
  · rcases List.mem_append.1 hz with hz | hz
    · exact h.src z hz
    · rw [List.mem_singleton.1 hz]; exact hs
theorem CMid.len {B : Nat} {ks ts : List Int} {xs ys : List Fx} {i j : Nat} (h : CMid B ks ts xs ys i j) (hi : i ≤ xs.length) : ys.length = i ∧ j ≤ i := by
  have h1 := congrArg List.length h.eq
  rw [Dk.crashL_length, fls_length, fls_length, List.length_take] at h1
  refine ⟨by omega, ?_⟩
  rw [h.j]
  unfold Dk.dirty
  have := List.length_filter_le (fun f => decide (f.syn < f.recs.length)) (fls (xs.take i))
  rw [fls_length, List.length_take] at this
  omega
theorem own_below {w w' : World} {base : Nat} {e : TypeId} {size : Nat} {v : Value} {n : Nat} {l : List Value} (h : w.ownsRow base e size v n l) (hb : Below w.heap.size w w') : w'.ownsRow base e size v n l := by
  refine h.kept (row := none) ⟨hb.os, hb.tape, hb.output, hb.size, fun i hi _ => hb.block i hi⟩ ?_
  rcases h.2 with ⟨rfl, _⟩ | ⟨g, cap, cur, rfl, _⟩ <;> simp [Value.ownBlock]
set_option maxRecDepth 100000 in
set_option maxHeartbeats 16000000 in
theorem crash_any (W : World) (p : Nat) (xs : List Fx) (A : Option Addr) (cap : Nat) (off : Bool) (left : Nat) (h : RI W p xs A cap off left) (ho : ∀ x ∈ xs, Dk.Okf x.f) (hz : ∀ x ∈ xs, Dk.flLoad x.f ≤ 100000000) (hl : xs.length ≤ 100000000) (ks ts : List Int) (KA TA : Option Addr) (kc tc : Nat) (gc : GivenC W ks ts KA TA) (hka : Away (atP p) KA (ic ks)) (hta : Away (atP p) TA (ic ts)) :
    Calls Try.prog 38 #[.pointer (some ⟨p, 0, none⟩), .agg #[.slice KA ks.length kc, .slice TA ts.length tc]] W fun e w' => e = .returned (.tuple #[]) ∧ ∃ ys A' cap', fls ys = Dk.crashL ks ts 0 (fls xs) ∧ RI w' p ys A' cap' true left ∧ Ko (atP p) W w' ∧ (∀ b o, A' = some ⟨b, o, none⟩ → W.heap.size ≤ b) ∧ ∀ y ∈ ys, Src xs W.heap.size y := by
  have hplt := h.lt
  have hszp : (W.setCell ⟨p, 1, none⟩ (.bool true)).heap.size = W.heap.size := by simp
  have hko : Ko (atP p) W ((W.setCell ⟨p, 1, none⟩ (.bool true)).alloc (.cells #[.slice KA ks.length kc, .slice TA ts.length tc] 36)) := ((Ko.refl _ _).setp 1 _).trans (Ko.bel (S := atP p) (bnew (Below.refl _ _) _)) (fun _ hk => .inl hk)
  have h1 : RI ((W.setCell ⟨p, 1, none⟩ (.bool true)).alloc (.cells #[.slice KA ks.length kc, .slice TA ts.length tc] 36)) p xs A cap true left := h.head hko ((Below.heap_alloc _ _ _ (by rw [hszp]; exact hplt)).trans (heap_setCell_same W p 1 _ _ _ h.row))
  have gc1 : GivenC ((W.setCell ⟨p, 1, none⟩ (.bool true)).alloc (.cells #[.slice KA ks.length kc, .slice TA ts.length tc] 36)) ks ts KA TA := ⟨gc.kl.ko hka hko, gc.tl.ko hta hko, gc.kn, gc.tn, gc.km, gc.tm⟩
  have c1 : W.cell? ⟨p, 1, none⟩ = some (.bool off) := cell_of_row W p 1 _ _ _ h.row
  have f1 : W.frozen? ⟨p, 1, none⟩ = false := frozen_of_row W p 1 _ _ h.row
  have c0 : ((W.setCell ⟨p, 1, none⟩ (.bool true)).alloc (.cells #[.slice KA ks.length kc, .slice TA ts.length tc] 36)).cell? ⟨p, 0, none⟩ = some (.slice A xs.length cap) := cell_of_row ((W.setCell ⟨p, 1, none⟩ (.bool true)).alloc (.cells #[.slice KA ks.length kc, .slice TA ts.length tc] 36)) p 0 _ _ _ h1.row
  have HbW : Hid (W.heap.size < ((W.setCell ⟨p, 1, none⟩ (.bool true)).alloc (.cells #[.slice KA ks.length kc, .slice TA ts.length tc] 36)).heap.size) := Lib.hid (by simp)
  have HCr : Hid (∀ Wz, Below ((W.setCell ⟨p, 1, none⟩ (.bool true)).alloc (.cells #[.slice KA ks.length kc, .slice TA ts.length tc] 36)).heap.size ((W.setCell ⟨p, 1, none⟩ (.bool true)).alloc (.cells #[.slice KA ks.length kc, .slice TA ts.length tc] 36)) Wz → Wz.heap[W.heap.size]? = some (.cells #[.slice KA ks.length kc, .slice TA ts.length tc] 36 (0, 0))) := Lib.hid fun Wz hb => (hb.block _ (by simp)).trans (by have := heap_alloc_new (W.setCell ⟨p, 1, none⟩ (.bool true)) (.cells #[.slice KA ks.length kc, .slice TA ts.length tc] 36); rw [hszp] at this; exact this)
  have HCZ := Lib.hid (sizeCrash)
  have HSub : Hid (∀ j, j < (#[.slice KA ks.length kc, .slice TA ts.length tc] : Array Value).size → (#[.slice KA ks.length kc, .slice TA ts.length tc] : Array Value)[0 + j]? = (#[.slice KA ks.length kc, .slice TA ts.length tc] : Array Value)[j]?) := Lib.hid fun j _ => by rw [Nat.zero_add]
  have H1 := Lib.hid h1
  have HKo := Lib.hid hko
  have HG := Lib.hid gc1
  have HOk := Lib.hid ho
  have HZl := Lib.hid hz
  have HC0 : Hid (∀ Wz, Below ((W.setCell ⟨p, 1, none⟩ (.bool true)).alloc (.cells #[.slice KA ks.length kc, .slice TA ts.length tc] 36)).heap.size ((W.setCell ⟨p, 1, none⟩ (.bool true)).alloc (.cells #[.slice KA ks.length kc, .slice TA ts.length tc] 36)) Wz → Wz.cell? ⟨p, 0, none⟩ = some (.slice A xs.length cap) ∧ Wz.frozen? ⟨p, 0, none⟩ = false) := Lib.hid fun Wz hb => ⟨(hb.cell (p := ⟨p, 0, none⟩) h1.lt).trans (cell_of_row ((W.setCell ⟨p, 1, none⟩ (.bool true)).alloc (.cells #[.slice KA ks.length kc, .slice TA ts.length tc] 36)) p 0 _ _ _ h1.row), (hb.frozen (p := ⟨p, 0, none⟩) h1.lt).trans (frozen_of_row ((W.setCell ⟨p, 1, none⟩ (.bool true)).alloc (.cells #[.slice KA ks.length kc, .slice TA ts.length tc] 36)) p 0 _ _ h1.row)⟩
  obtain ⟨i0, hi, hz0, hz1, hz2⟩ := info_parts infoFl
  have HI := Lib.hid (And.intro hi (And.intro hz0 (And.intro hz1 hz2)))
  have hne : ¬ p = W.heap.size := by omega
  clear h h1 hko hszp gc gc1 hka hta ho hz hi hz0 hz1 hz2
  go_enter Try.func38, Try.ntmps38
  go_wp2_with fail
  clear c0 c1 f1
  go_loopw [4, 5, 6] (fun v jv iv wr => ∃ (i j : Nat) (ys : List Fx), i ≤ xs.length ∧ iv = .int .i64 (i : Int) ∧ jv = .int .i64 (j : Int) ∧ wr.ownsRow ((W.setCell ⟨p, 1, none⟩ (.bool true)).alloc (.cells #[.slice KA ks.length kc, .slice TA ts.length tc] 36)).heap.size 65 5 v ys.length (fc ys) ∧ CMid W.heap.size ks ts xs ys i j ∧ (∀ y ∈ ys, FOk wr p v y) ∧ Below ((W.setCell ⟨p, 1, none⟩ (.bool true)).alloc (.cells #[.slice KA ks.length kc, .slice TA ts.length tc] 36)).heap.size ((W.setCell ⟨p, 1, none⟩ (.bool true)).alloc (.cells #[.slice KA ks.length kc, .slice TA ts.length tc] 36)) wr) (fun _ _ iv _ => xs.length - (intOf iv).toNat)
  case atStart => exact ⟨0, 0, [], Nat.zero_le _, rfl, rfl, World.ownsRow_nil _ _ _ _, ⟨rfl, rfl, fun y hy => by cases hy⟩, (fun y hy => by cases hy), Below.refl _ _⟩
  case round =>
    obtain ⟨i, j, ys, hi, rfl, rfl, hown, hmid, hfo, hb⟩ := hrel
    obtain ⟨Av, cv, rfl, _⟩ := own_slice hown
    have Hb := Lib.hid hb
    obtain ⟨c0, f0⟩ := HC0.out wr hb
    obtain ⟨hyl, hji⟩ := hmid.len hi
    have HO := Lib.hid hown
    have HM := Lib.hid hmid
    have HFo := Lib.hid hfo
    have HYl := Lib.hid hyl
    clear hb hown hmid hfo hyl
    by_cases hlt : i < xs.length
    · obtain ⟨g, hA, hg, hr⟩ := H1.out.cellsAt i hlt
      have hr2 : wr.rangeAt g (i * 5) (flC xs[i]).toList := fun q v hv => (Hb.out.cell (p := ⟨g, i * 5 + q, none⟩) hg).trans (hr q v hv)
      have hmem : xs[i] ∈ xs := List.getElem_mem hlt
      have hokx := HOk.out _ hmem
      have hzx := HZl.out _ hmem
      have hlx := (H1.out.lies _ hmem).below Hb.out
      have hrx := H1.out.room _ hmem
      have hax := H1.out.ap _ hmem
      have havx : ∀ b, (Value.slice Av ys.length cv).ownBlock = some b → Off xs[i] b := fun b hb b2 o2 hre he hbb => by
        have h1 := (own_lt HO.out hb).2
        rcases H1.out.lies _ hmem with h2 | ⟨b3, o3, h3, hl3, _⟩
        · have := sc_length xs[i].f.recs
          rw [h2] at this
          exact hre (List.eq_nil_of_length_eq_zero this.symm)
        · rw [he] at h3
          simp only [Option.some.injEq, Addr.mk.injEq, and_true] at h3
          omega
      have HN : Hid (∀ y : Fx, (y.f = if xs[i].f.syn < xs[i].f.recs.length then Dk.leave xs[i].f ks ts j else xs[i].f) → Src xs W.heap.size y → CMid W.heap.size ks ts xs (ys ++ [y]) (i + 1) (if xs[i].f.syn < xs[i].f.recs.length then j + 1 else j)) := Lib.hid fun y hy hs => HM.out.next hlt hy hs
      obtain ⟨x, hx⟩ : ∃ x, x = xs[i] := ⟨_, rfl⟩
      rw [← hx] at hr2 hokx hzx hlx hrx hax havx HN hmem
      have HMx := Lib.hid hmem
      have HLf : Hid (x.f.syn < x.f.recs.length → ∀ Wz, Below wr.heap.size wr Wz → Calls Try.prog 58 #[.agg (flC x), .agg #[.slice KA ks.length kc, .slice TA ts.length tc], .int .i64 (j : Int)] Wz (RetLeft x ks ts j Wz)) := Lib.hid fun hs Wz hb => left_any Wz x (hlx.below hb) hrx hokx hzx hs ks ts KA TA kc tc (HG.out.below (bnext Hb.out hb)) j (by omega)
      have HFx : Hid (FOk wr p (.slice Av ys.length cv) x) := Lib.hid ⟨hlx, hax, hrx, havx⟩
      have hst := storeFl x wr
      have HZx := Lib.hid (sizeFl x)
      have HRg := Lib.hid hr2
      have HOx := Lib.hid (flOne x)
      obtain ⟨⟨nx, rx, sx, cx, tx⟩, ax, kx⟩ := x
      unfold flC at hst HZx HRg HLf HOx
      simp only at hst HZx HRg HLf HN HOx
      subst hA
      clear hr hr2 hmem hokx hzx hlx hrx hax havx hx HM
      obtain ⟨hi, hz0, hz1, hz2⟩ := HI.out
      by_cases hd : sx < rx.length
      · have q1 : decide (sx < rx.length) = true := by simpa using hd
        have HL2 := Lib.hid (HLf.out hd _ (bnew (Below.refl _ _) (.cells #[.string nx, .slice ax rx.length kx, .int .i64 (sx : Int), .bool cx, .string tx] 65)))
        have HN2 := Lib.hid HN.out
        simp only [if_pos hd] at HN2
        have HR1 : Hid ((wr.alloc (.cells #[.string nx, .slice ax rx.length kx, .int .i64 (sx : Int), .bool cx, .string tx] 65)).heap[wr.heap.size]? = some (.cells #[.string nx, .slice ax rx.length kx, .int .i64 (sx : Int), .bool cx, .string tx] 65 (0, 0))) := Lib.hid (heap_alloc_new wr _)
        have HCz := Lib.hid (HCr.out _ (bnew Hb.out (.cells #[.string nx, .slice ax rx.length kx, .int .i64 (sx : Int), .bool cx, .string tx] 65)))
        have HSx : Hid (∀ q, q < (#[.string nx, .slice ax rx.length kx, .int .i64 (sx : Int), .bool cx, .string tx] : Array Value).size → (#[.string nx, .slice ax rx.length kx, .int .i64 (sx : Int), .bool cx, .string tx] : Array Value)[0 + q]? = (#[.string nx, .slice ax rx.length kx, .int .i64 (sx : Int), .bool cx, .string tx] : Array Value)[q]?) := Lib.hid fun q _ => by rw [Nat.zero_add]
        clear HLf HN hd
        go_wp2_with (first
          | (refine wpList_load_rng rfl 65 _ rfl g (i * 5) rfl #[.string nx, .slice ax rx.length kx, .int .i64 (sx : Int), .bool cx, .string tx] _ HRg.out Try.underlying65 rfl HZx.out ?_)
          | (refine wpList_load_sub rfl 65 _ rfl wr.heap.size 0 rfl 65 #[.string nx, .slice ax rx.length kx, .int .i64 (sx : Int), .bool cx, .string tx] #[.string nx, .slice ax rx.length kx, .int .i64 (sx : Int), .bool cx, .string tx] (0, 0) _ HR1.out HSx.out Try.underlying65 rfl HZx.out ?_)
          | (refine wpList_load_sub rfl 36 _ rfl W.heap.size 0 rfl 36 #[.slice KA ks.length kc, .slice TA ts.length tc] #[.slice KA ks.length kc, .slice TA ts.length tc] (0, 0) _ HCz.out HSub.out Try.underlying36 rfl HCZ.out ?_))
        refine (HL2.out).mono ?_
        rintro r w2 ⟨ra', rc', rfl, l1, l2, l3, l4⟩
        obtain ⟨y, hy⟩ : ∃ y : Fx, y = ⟨Dk.leave ⟨nx, rx, sx, cx, tx⟩ ks ts j, ra', rc'⟩ := ⟨_, rfl⟩
        have HMn := Lib.hid (HN2.out y (by rw [hy]) (.inr fun b o hr he => by
          rw [hy] at hr he
          have h5 := l3 b o hr he
          have h6 := Hb.out.size
          have h7 := HbW.out
          simp only [World.size_alloc] at h5 h6 h7
          omega))
        have hrow2 : w2.heap[wr.heap.size]? = some (.cells #[.string nx, .slice ax rx.length kx, .int .i64 (sx : Int), .bool cx, .string tx] 65 (0, 0)) := (l2.block _ (by simp)).trans HR1.out
        have hby : Below wr.heap.size wr (w2.setCells wr.heap.size 0 (flC y).toList) := setCells_below (Nat.le_refl _) _ _ _ (bnext (bnew (Below.refl _ _) _) l2)
        have hfy : FOk (w2.setCells wr.heap.size 0 (flC y).toList) p (.slice Av ys.length cv) y := by
          rw [hy]
          refine ⟨l1.ko (S := fun k => k = wr.heap.size) (fun b o hne he hs => ?_) ⟨?_, ?_, ?_, ?_, ?_⟩, fun b o hre he hbp => ?_, l4, fun b hb b2 o2 hre he hbb => ?_⟩
          · have := l3 b o (fun h => hne (by rw [h]; rfl)) he
            simp at this; omega
          · exact (setCells_below (Nat.zero_le _) _ _ _ (Below.refl 0 w2)).os
          · exact (setCells_below (Nat.zero_le _) _ _ _ (Below.refl 0 w2)).tape
          · exact (setCells_below (Nat.zero_le _) _ _ _ (Below.refl 0 w2)).output
          · exact (setCells_below (g := wr.heap.size) (Nat.zero_le _) _ _ _ (Below.refl 0 w2)).size
          · exact fun k _ hn => setCells_other hn _ _ _
          · have h5 := l3 b o hre he
            have h6 := Hb.out.size
            have h7 := HbW.out
            simp at h5; omega
          · have h5 := l3 b2 o2 hre he
            have h6 := (own_lt HO.out hb).1
            simp at h5; omega
        have hsy : (flC y).size = 5 := rfl
        have HZy := Lib.hid (sizeFl y)
        have HOy := Lib.hid (flOne y)
        rw [← hy]
        have HB3 := Lib.hid hby
        have HF3 := Lib.hid hfy
        have HR2 := Lib.hid hrow2
        have hrow3 : (w2.setCells wr.heap.size 0 (flC y).toList).heap[wr.heap.size]? = some (.cells (flC y) 65 (0, 0)) := (row_setCells _ 0 _ _ hrow2).trans (by obtain ⟨⟨n1, r1, s1, c1, t1⟩, a1, k1⟩ := y; simp [lay, flC])
        have HR3 := Lib.hid hrow3
        have HSy := Lib.hid hsy
        clear l1 l2 l3 l4 hrow2 hby hfy hrow3 hy hsy hst c0 f0
        obtain ⟨Y, hY⟩ : ∃ Y, Y = flC y := ⟨_, rfl⟩
        rw [← hY] at HZy HOy HB3 HF3 HSy
        rw [← hY]
        have HR3' : Hid ((w2.setCells wr.heap.size 0 Y.toList).heap[wr.heap.size]? = some (.cells (flC y) 65 (0, 0))) := Lib.hid (by rw [hY]; exact HR3.out)
        have HYY := Lib.hid hY
        clear HR3 hY
        have HR3 := HR3'
        clear HR3'
        go_upto_region 11 with (refine wpList_store_sub rfl 65 _ _ rfl wr.heap.size 0 rfl 65 #[.string nx, .slice ax rx.length kx, .int .i64 (sx : Int), .bool cx, .string tx] Y rfl HR2.out (by rw [HSy.out]; exact Nat.le_refl _) HZy.out HOy.out ?_)
        refine forget (fun Wz => Below wr.heap.size wr Wz ∧ Wz.heap[wr.heap.size]? = some (.cells (flC y) 65 (0, 0)) ∧ FOk Wz p (.slice Av ys.length cv) y) ⟨HB3.out, HR3.out, HF3.out⟩ ?_
        intro Wz hz
        have Hzb := Lib.hid hz.1
        have Hzr := Lib.hid hz.2.1
        have hzo := own_below HO.out hz.1
        have HFz : Hid (∀ y' ∈ ys ++ [y], FOk Wz p (.slice Av ys.length cv) y') := Lib.hid fun y' hy' => by
          rcases List.mem_append.1 hy' with hy' | hy'
          · exact (HFo.out y' hy').grown hz.1 (fun k hk => .inl hk)
          · rw [List.mem_singleton.1 hy']; exact hz.2.2
        have Hzw := Lib.hid (bnext Hb.out hz.1)
        have hyl : ys.length ≤ 100000000 := by rw [HYl.out]; omega
        clear hz HB3 HR3 HF3
        have HZy2 := Lib.hid (sizeFl y)
        have HSy2 : Hid (∀ q, q < (flC y).size → (flC y)[0 + q]? = (flC y)[q]?) := Lib.hid fun q _ => by rw [Nat.zero_add]
        obtain ⟨⟨n1, r1, s1, c1, t1⟩, a1, k1⟩ := y
        unfold flC at Hzr HZy2 HSy2
        simp only at Hzr HZy2 HSy2
        go_wp2_with (first
          | (refine wpList_load_sub rfl 65 _ rfl wr.heap.size 0 rfl 65 #[.string n1, .slice a1 r1.length k1, .int .i64 (s1 : Int), .bool c1, .string t1] #[.string n1, .slice a1 r1.length k1, .int .i64 (s1 : Int), .bool c1, .string t1] (0, 0) _ Hzr.out HSy2.out Try.underlying65 rfl HZy2.out ?_)
          | (at_builtin; refine wpList_app_own rfl (.tmp 39) (.tmp 41) 28 rfl ((W.setCell ⟨p, 1, none⟩ (.bool true)).alloc (.cells #[.slice KA ks.length kc, .slice TA ts.length tc] 36)).heap.size 65 i0 flZ 5 72 Try.underlying28 hi hz0 hz1 hz2 rfl (by decide) _ _ _ rfl (World.ownsRow.alloc hzo _) ⟨Wz.heap.size, 0, none⟩ 1 1 (fc1 ⟨⟨n1, r1, s1, c1, t1⟩, a1, k1⟩) rfl rfl (news_fl Wz _ _) (fl_one _) (by simp only [maxLen]; omega) (by omega) (by have := Hzw.out.size; simp only [World.size_alloc] at this ⊢; omega) ?_; intro v4 w4 ho4 hg4 hn4; obtain ⟨A4, c4, rfl, _⟩ := own_slice ho4; have HQ4 := Lib.hid ho4; have HB4 : Hid (Below ((W.setCell ⟨p, 1, none⟩ (.bool true)).alloc (.cells #[.slice KA ks.length kc, .slice TA ts.length tc] 36)).heap.size ((W.setCell ⟨p, 1, none⟩ (.bool true)).alloc (.cells #[.slice KA ks.length kc, .slice TA ts.length tc] 36)) w4) := Lib.hid ((bnew Hzw.out _).grown hg4 (by have := Hzw.out.size; simp only [World.size_alloc] at this ⊢; omega) (fun j hj => (own_lt hzo hj).2)); have HF4 : Hid (∀ y' ∈ ys ++ [⟨⟨n1, r1, s1, c1, t1⟩, a1, k1⟩], FOk w4 p (.slice A4 (ys.length + 1) c4) y') := Lib.hid (fun y' hy' => ((HFz.out y' hy').grown (bnew (Below.refl _ _) _) (fun k hk => .inl hk)).next hg4 hn4); clear ho4 hg4 hn4 hzo))
        go_roundw
        case rel => exact ⟨i + 1, _, _, by omega, by go_num, by go_num, by rw [List.length_append, fc_append]; exact HQ4.out, HMn.out, HF4.out, HB4.out⟩
        case measure => simp [intOf]; omega
      · have q1 : decide (sx < rx.length) = false := by simpa using hd
        have HMn := Lib.hid (HN.out ⟨⟨nx, rx, sx, cx, tx⟩, ax, kx⟩ (by rw [if_neg hd]) (.inl ⟨_, HMx.out, rfl, rfl⟩))
        rw [if_neg hd] at HMn
        have HB3 := Lib.hid (bnew (Below.refl wr.heap.size wr) (.cells #[.string nx, .slice ax rx.length kx, .int .i64 (sx : Int), .bool cx, .string tx] 65))
        have HR3 : Hid ((wr.alloc (.cells #[.string nx, .slice ax rx.length kx, .int .i64 (sx : Int), .bool cx, .string tx] 65)).heap[wr.heap.size]? = some (.cells (flC ⟨⟨nx, rx, sx, cx, tx⟩, ax, kx⟩) 65 (0, 0))) := Lib.hid (heap_alloc_new wr _)
        have HF3 := Lib.hid (HFx.out.grown (bnew (Below.refl wr.heap.size wr) (.cells #[.string nx, .slice ax rx.length kx, .int .i64 (sx : Int), .bool cx, .string tx] 65)) (fun k hk => .inl hk))
        clear HLf HN hd
        go_upto_region 11 with (refine wpList_load_rng rfl 65 _ rfl g (i * 5) rfl #[.string nx, .slice ax rx.length kx, .int .i64 (sx : Int), .bool cx, .string tx] _ HRg.out Try.underlying65 rfl HZx.out ?_)
        obtain ⟨y, hy⟩ : ∃ y : Fx, y = ⟨⟨nx, rx, sx, cx, tx⟩, ax, kx⟩ := ⟨_, rfl⟩
        rw [← hy] at HMn HR3 HF3
        clear hst c0 f0 hy
        refine forget (fun Wz => Below wr.heap.size wr Wz ∧ Wz.heap[wr.heap.size]? = some (.cells (flC y) 65 (0, 0)) ∧ FOk Wz p (.slice Av ys.length cv) y) ⟨HB3.out, HR3.out, HF3.out⟩ ?_
        intro Wz hz
        have Hzb := Lib.hid hz.1
        have Hzr := Lib.hid hz.2.1
        have hzo := own_below HO.out hz.1
        have HFz : Hid (∀ y' ∈ ys ++ [y], FOk Wz p (.slice Av ys.length cv) y') := Lib.hid fun y' hy' => by
          rcases List.mem_append.1 hy' with hy' | hy'
          · exact (HFo.out y' hy').grown hz.1 (fun k hk => .inl hk)
          · rw [List.mem_singleton.1 hy']; exact hz.2.2
        have Hzw := Lib.hid (bnext Hb.out hz.1)
        have hyl : ys.length ≤ 100000000 := by rw [HYl.out]; omega
        clear hz HB3 HR3 HF3
        have HZy2 := Lib.hid (sizeFl y)
        have HSy2 : Hid (∀ q, q < (flC y).size → (flC y)[0 + q]? = (flC y)[q]?) := Lib.hid fun q _ => by rw [Nat.zero_add]
        obtain ⟨⟨n1, r1, s1, c1, t1⟩, a1, k1⟩ := y
        unfold flC at Hzr HZy2 HSy2
        simp only at Hzr HZy2 HSy2
        go_wp2_with (first
          | (refine wpList_load_sub rfl 65 _ rfl wr.heap.size 0 rfl 65 #[.string n1, .slice a1 r1.length k1, .int .i64 (s1 : Int), .bool c1, .string t1] #[.string n1, .slice a1 r1.length k1, .int .i64 (s1 : Int), .bool c1, .string t1] (0, 0) _ Hzr.out HSy2.out Try.underlying65 rfl HZy2.out ?_)
          | (at_builtin; refine wpList_app_own rfl (.tmp 39) (.tmp 41) 28 rfl ((W.setCell ⟨p, 1, none⟩ (.bool true)).alloc (.cells #[.slice KA ks.length kc, .slice TA ts.length tc] 36)).heap.size 65 i0 flZ 5 72 Try.underlying28 hi hz0 hz1 hz2 rfl (by decide) _ _ _ rfl (World.ownsRow.alloc hzo _) ⟨Wz.heap.size, 0, none⟩ 1 1 (fc1 ⟨⟨n1, r1, s1, c1, t1⟩, a1, k1⟩) rfl rfl (news_fl Wz _ _) (fl_one _) (by simp only [maxLen]; omega) (by omega) (by have := Hzw.out.size; simp only [World.size_alloc] at this ⊢; omega) ?_; intro v4 w4 ho4 hg4 hn4; obtain ⟨A4, c4, rfl, _⟩ := own_slice ho4; have HQ4 := Lib.hid ho4; have HB4 : Hid (Below ((W.setCell ⟨p, 1, none⟩ (.bool true)).alloc (.cells #[.slice KA ks.length kc, .slice TA ts.length tc] 36)).heap.size ((W.setCell ⟨p, 1, none⟩ (.bool true)).alloc (.cells #[.slice KA ks.length kc, .slice TA ts.length tc] 36)) w4) := Lib.hid ((bnew Hzw.out _).grown hg4 (by have := Hzw.out.size; simp only [World.size_alloc] at this ⊢; omega) (fun j hj => (own_lt hzo hj).2)); have HF4 : Hid (∀ y' ∈ ys ++ [⟨⟨n1, r1, s1, c1, t1⟩, a1, k1⟩], FOk w4 p (.slice A4 (ys.length + 1) c4) y') := Lib.hid (fun y' hy' => ((HFz.out y' hy').grown (bnew (Below.refl _ _) _) (fun k hk => .inl hk)).next hg4 hn4); clear ho4 hg4 hn4 hzo))
        go_roundw
        case rel => exact ⟨i + 1, _, _, by omega, by go_num, by go_num, by rw [List.length_append, fc_append]; exact HQ4.out, HMn.out, HF4.out, HB4.out⟩
        case measure => simp [intOf]; omega
    · obtain rfl : i = xs.length := by omega
      have heq := HM.out.eq
      rw [List.take_length] at heq
      have HEq := Lib.hid heq
      have HSr := Lib.hid HM.out.src
      have HFin := Lib.hid (H1.out.renew2 Hb.out HO.out HFo.out)
      clear heq
      go_wp2_with fail
      go_end0
      obtain ⟨A', cap', f1, f2, f3⟩ := HFin.out
      exact ⟨rfl, ys, A', cap', HEq.out, f1, HKo.out.trans f2 (fun _ hk => .inl hk), fun b o he => Nat.le_trans (Nat.le_of_lt HbW.out) (f3 b o he), HSr.out⟩
end Go.Proofs.Ytjmnoogaffjdiaa
