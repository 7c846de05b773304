/-
  Twin walked.
-/
import Derived.Test.YtjmnoogaffjdiaaRDmCrash
set_option linter.unusedSimpArgs false
set_option linter.unusedVariables false
namespace Go.Proofs.Ytjmnoogaffjdiaa
open Go.RowKit
namespace Dk
theorem rises_ext : ∀ {a b : List Fl}, Rises a → Rises b → (∀ f, f ∈ a ↔ f ∈ b) → a = b
  | [], [], _, _, _ => rfl
  | [], y :: ys, _, _, h => by have := (h y).2 (List.mem_cons_self ..); cases this
  | x :: xs, [], _, _, h => by have := (h x).1 (List.mem_cons_self ..); cases this
  | x :: xs, y :: ys, ha, hb, h => by
    have hxy : x = y := by
      rcases List.mem_cons.1 ((h x).1 (List.mem_cons_self ..)) with h1 | h1
      · exact h1
      · rcases List.mem_cons.1 ((h y).2 (List.mem_cons_self ..)) with h2 | h2
        · exact h2.symm
        · exact absurd (lt_trans (ha.1 y h2) (hb.1 x h1)) (lt_irrefl _)
    subst hxy
    rw [rises_ext ha.2 hb.2 fun f => ?_]
    have h1 := h f
    refine ⟨fun hf => ?_, fun hf => ?_⟩
    · rcases List.mem_cons.1 (h1.1 (List.mem_cons_of_mem _ hf)) with e | e
      · exact absurd (ha.1 f hf) (by rw [e]; exact lt_irrefl _)
      · exact e
    · rcases List.mem_cons.1 (h1.2 (List.mem_cons_of_mem _ hf)) with e | e
      · exact absurd (hb.1 f hf) (by rw [e]; exact lt_irrefl _)
      · exact e
theorem mem_put_new {fs : List Fl} {g : Fl} (hn : ∀ x ∈ fs, x.name ≠ g.name) (f : Fl) : f ∈ put fs g ↔ f = g ∨ f ∈ fs := by
  induction fs with
  | nil => simp [put]
  | cons x xs ih =>
    have ih := ih fun y hy => hn y (List.mem_cons_of_mem _ hy)
    unfold put
    rw [if_neg (hn x (List.mem_cons_self ..))]
    split
    · simp
    · rw [List.mem_cons, ih, List.mem_cons]
      constructor
      · rintro (h | h | h)
        · exact .inr (.inl h)
        · exact .inl h
        · exact .inr (.inr h)
      · rintro (h | h | h)
        · exact .inr (.inl h)
        · exact .inl h
        · exact .inr (.inr h)
theorem fsLoad_filter (q : Fl → Bool) : ∀ fs : List Fl, fsLoad (fs.filter q) ≤ fsLoad fs
  | [] => Nat.le_refl _
  | x :: xs => by
    have := fsLoad_filter q xs
    rw [List.filter_cons, fsLoad_cons]
    split
    · rw [fsLoad_cons]; omega
    · omega
end Dk
/-- The files that have come. -/
def came (fs : List Dk.Fl) (done : Sm.Row) : List Dk.Fl := fs.filter fun f => done.any fun q => decide (q.1 = f.name)
theorem mem_came {fs : List Dk.Fl} {done : Sm.Row} {f : Dk.Fl} : f ∈ came fs done ↔ f ∈ fs ∧ ∃ q ∈ done, q.1 = f.name := by
  unfold came
  rw [List.mem_filter]
  simp
theorem came_put {fs : List Dk.Fl} (hr : Dk.Rises fs) {done : Sm.Row} {g : Dk.Fl} (hg : g ∈ fs) (q : ByteArray × Value) (hq : q.1 = g.name) (hn : ∀ x ∈ done, x.1 ≠ q.1) : Dk.put (came fs done) g = came fs (done ++ [q]) := by
  refine Dk.rises_ext (Dk.rises_put (Dk.rises_filter hr _) g) (Dk.rises_filter hr _) fun f => ?_
  rw [Dk.mem_put_new (fun x hx he => by
    obtain ⟨_, y, hy, h2⟩ := mem_came.1 hx
    exact hn y hy (h2.trans (he.trans hq.symm))), mem_came]
  show _ ↔ f ∈ came fs (done ++ [q])
  rw [mem_came]
  constructor
  · rintro (rfl | ⟨h1, y, hy, h2⟩)
    · exact ⟨hg, q, by simp, hq⟩
    · exact ⟨h1, y, List.mem_append_left _ hy, h2⟩
  · rintro ⟨h1, y, hy, h2⟩
    rcases List.mem_append.1 hy with hy | hy
    · exact .inr ⟨h1, y, hy, h2⟩
    · rw [List.mem_singleton] at hy
      refine .inl ?_
      have e1 := Dk.find_of_mem hr h1
      have e2 := Dk.find_of_mem hr hg
      rw [show f.name = g.name by rw [← h2, hy, hq]] at e1
      rw [e1] at e2
      injection e2
/-- Where the going through stands. -/
structure TwSt (W wr : World) (p mb p' mb' r : Nat) (hs : List Hm) (d : Dk.D) (done : Sm.Row) (cnt : Nat) (hs' : List Hm) : Prop where
  rg : SRg Try.prog 9 wr mb r (hs.map pair) done cnt
  st : DkS wr p' mb' hs' ⟨came d.files done, d.off, d.left⟩
  bl : Below W.heap.size W wr
  new : ∀ k, Bks p' mb' hs' k → W.heap.size ≤ k
  r : mb' < r
theorem came_all {W : World} {p mb : Nat} {hs : List Hm} {d : Dk.D} (h : DkS W p mb hs d) {done : Sm.Row} (hp : done.Perm (hs.map pair)) : came d.files done = d.files := by
  unfold came
  rw [List.filter_eq_self]
  intro f hf
  rw [← h.fs] at hf
  obtain ⟨g, hg, rfl⟩ := List.mem_map.1 hf
  rw [List.any_eq_true]
  exact ⟨pair g, hp.mem_iff.2 (List.mem_map.2 ⟨g, hg, rfl⟩), by simp [pair]⟩
theorem SRg.apart {P : Program} {k : TypeId} {W : World} {b r cnt : Nat} {l done : Sm.Row} {q : ByteArray × Value} (h : SRg P k W b r l (done ++ [q]) cnt) : ∀ x ∈ done, x.1 ≠ q.1 := fun x hx he => by
  obtain ⟨lf, _, _, _, _, h5⟩ := h
  rw [List.map_append, List.nodup_append] at h5
  exact h5.2.2 x.1 (List.mem_map.2 ⟨x, hx, rfl⟩) q.1 (by simp) he
/-- One file more. -/
theorem TwSt.more {W w2 w3 w4 : World} {p mb p' mb' r : Nat} {hs : List Hm} {d : Dk.D} {done : Sm.Row} {cnt : Nat} {hs' : List Hm} {g h' : Hm} (hS : DkS W p mb hs d) (hg : g ∈ hs) (hbm : mb < W.heap.size) (hmm : W.heap.size ≤ mb')
    (hr2 : SRg Try.prog 9 w2 mb r (hs.map pair) (done ++ [pair g]) cnt) (hs2 : DkS w2 p' mb' hs' ⟨came d.files done, d.off, d.left⟩) (hb2 : Below W.heap.size W w2) (hnw : ∀ k, Bks p' mb' hs' k → W.heap.size ≤ k) (hmr : mb' < r)
    (hb3 : Below w2.heap.size w2 w3) (hf3 : FAt w3 h') (hff : h'.f = g.f) (hbl : ∀ k, h'.Blk k → w2.heap.size ≤ k) (hm4 : SMap Try.prog 9 w4 mb' (Sm.put (hs'.map pair) g.f.name (.pointer (some ⟨h'.b, 0, none⟩)))) (hk4 : Ko (atB mb') w3 w4) :
    TwSt W w4 p mb p' mb' r hs d (done ++ [pair g]) cnt (hput hs' h') := by
  have hr3 := hr2.kept (hb3.block _ hr2.map.lt) (hb3.block _ hr2.lt)
  have hs3 := hs2.stays fun k hk => hb3.block k (hs2.lt hk)
  have hmlt := hs2.map.lt
  have hr4 := hr3.kept (W' := w4) (hk4.block mb hr3.map.lt fun e => by have : mb = mb' := e; omega) (hk4.block r hr3.lt fun e => by have : r = mb' := e; omega)
  have hf4 : FAt w4 h' := hf3.ko hk4 fun k hk hm => by
    have := hbl k hk
    have : k = mb' := hm
    omega
  have hg' : g.f ∈ d.files := by rw [← hS.fs]; exact List.mem_map.2 ⟨g, hg, rfl⟩
  have hput : Dk.put (came d.files done) g.f = came d.files (done ++ [pair g]) := came_put hS.inv.rises hg' (pair g) rfl (SRg.apart hr2)
  have hinv : Dk.Inv ⟨came d.files (done ++ [pair g]), d.off, d.left⟩ := ⟨Dk.rises_filter hS.inv.rises _, fun f hf => hS.inv.ok f (mem_came.1 hf).1⟩
  have hld : Dk.load ⟨came d.files (done ++ [pair g]), d.off, d.left⟩ ≤ 100000000 := Nat.le_trans (Dk.fsLoad_filter _ _) hS.load
  have hst := hs3.put (g' := h') (d' := ⟨came d.files (done ++ [pair g]), d.off, d.left⟩) hk4 (fun k hk => .inr (.inl hk)) ((hk4.block p' hs3.head.lt hs3.pm).trans hs3.head) (by rw [hput_p, hff]; exact hm4) hf4 (fun k hk x hx _ hxk => by
    have h1 := hbl k hk
    have h2 := (hs2.ok x hx).lt hxk
    omega) (by rw [hff]; exact hput.symm) hinv hld hS.left
  refine ⟨hr4, hst, ?_, fun k hk => ?_, hmr⟩
  · have h1 := hb2.trans (hb3.mono hb2.size)
    exact Ko.below h1 hk4 h1.size fun k hk => by rw [show k = mb' from hk]; exact hmm
  · rcases hk with hk | hk | ⟨x, hx, hxk⟩
    · exact hnw k (.inl hk)
    · exact hnw k (.inr (.inl hk))
    · rcases mem_hput hs3.rises hx with rfl | ⟨hx, _⟩
      · exact Nat.le_trans hb2.size (hbl k hxk)
      · exact hnw k (.inr (.inr ⟨x, hx, hxk⟩))
theorem hput_len (hs : List Hm) (h : Hm) : (hput hs h).length ≤ hs.length + 1 := by
  induction hs with
  | nil => simp [hput]
  | cons g gs ih =>
    unfold hput
    split
    · simp
    · split
      · simp
      · rw [List.length_cons, List.length_cons]; omega
theorem came_nil (fs : List Dk.Fl) : came fs [] = [] := by simp [came]
set_option maxRecDepth 100000 in
set_option maxHeartbeats 2000000 in
theorem dTwin_any (W : World) (p : Nat) (S : Nat → Prop) (d : Dk.D) (h : DmAt W p S d) :
    Calls Try.prog 28 #[.pointer (some ⟨p, 0, none⟩)] W fun e w' => ∃ p' S', e = .returned (.pointer (some ⟨p', 0, none⟩)) ∧ DmAt w' p' S' d ∧ (∀ k, S' k → W.heap.size ≤ k) ∧ Below W.heap.size W w' := by
  obtain ⟨mb, hs, hS, h0⟩ := h
  have HP := Lib.hid (isMade_any W p mb _ _ hS.head)
  have HN := Lib.hid (dNew_any W)
  have HS := Lib.hid hS
  obtain ⟨y, hy⟩ : ∃ y, y = d.left := ⟨_, rfl⟩
  obtain ⟨o, ho⟩ : ∃ o, o = d.off := ⟨_, rfl⟩
  have HY := Lib.hid (And.intro hy ho)
  clear hS h0 hy ho
  go_enter Try.func28, Try.ntmps28
  go_wp2_with fail
  refine (HP.out).mono ?_
  rintro e w1 ⟨rfl, rfl⟩
  go_wp2_with fail
  refine (HN.out).mono ?_
  rintro e w1 ⟨p', S', rfl, hA, hnw, hb1⟩
  obtain ⟨mb', hs', hS', h0'⟩ := hA
  have hnil : hs' = [] := by
    have := hS'.fs
    exact List.map_eq_nil_iff.1 this
  subst hnil
  have hp' : W.heap.size ≤ p' := hnw p' ((h0' _).2 (.inl rfl))
  have hmb' : W.heap.size ≤ mb' := hnw mb' ((h0' _).2 (.inr (.inl rfl)))
  have hS1 := HS.out.stays (W' := w1) fun k hk => hb1.block k (HS.out.lt hk)
  have hpl := HS.out.head.lt
  have hml := HS.out.map.lt
  have c1 := hS1.head.c1
  have c2 := hS1.head.c2
  rw [← HY.out.1] at c1
  rw [← HY.out.2] at c2
  have k1 := hS'.head.c1
  have k2 := hS'.head.c2
  have f1 := hS'.head.f1
  have f2 := hS'.head.f2
  have hne : p ≠ p' := by omega
  have HF : Hid (∀ w5, HAt w5 p' mb' y o → Ko (atB p') w1 w5 → DkS w5 p' mb' [] ⟨came d.files [], d.off, d.left⟩ ∧ DkS w5 p mb hs d ∧ Below W.heap.size W w5) := Lib.hid fun w5 hh hk => by
    refine ⟨?_, hS1.stays fun k hk2 => hk.block k (hS1.lt hk2) fun e => ?_, Ko.below hb1 hk hb1.size fun k hk => by rw [show k = p' from hk]; exact hp'⟩
    · rw [came_nil]
      rw [HY.out.1, HY.out.2] at hh
      have := hS'.heads hk hh HS.out.left
      exact this
    · have h1 := HS.out.lt hk2
      have h2 : k = p' := e
      omega
  have hH := hS'.head
  have HX : Hid (HAt ((w1.setCell ⟨p', 1, none⟩ (.int .i64 (y : Int))).setCell ⟨p', 2, none⟩ (.bool o)) p' mb' y o ∧ HAt ((w1.setCell ⟨p', 2, none⟩ (.bool o)).setCell ⟨p', 1, none⟩ (.int .i64 (y : Int))) p' mb' y o) := Lib.hid ⟨(hH.set1 _ _ rfl).set2 _, (hH.set2 _).set1 _ _ rfl⟩
  have HM := Lib.hid (And.intro hpl (And.intro hml (And.intro hp' hmb')))
  clear hnw h0' hS1 hS' hb1 hH hpl hml hp' hmb'
  go_wp2_with fail
  go_region
  all_goals
    go_upto_region 5 with (fail)
    refine forget (fun Wz => DkS Wz p' mb' [] ⟨came d.files [], d.off, d.left⟩ ∧ DkS Wz p mb hs d ∧ Below W.heap.size W Wz) (by
      first
        | exact HF.out _ (by exact HX.out.1) (by exact (((Ko.refl (atB p') w1).set (show atB p' p' from rfl) 1 _).set (show atB p' p' from rfl) 2 _).drew)
        | exact HF.out _ (by exact HX.out.2) (by exact (((Ko.refl (atB p') w1).set (show atB p' p' from rfl) 2 _).set (show atB p' p' from rfl) 1 _).drew)) ?_
    rintro Wz ⟨z1, z2, z3⟩
    have c0 := z2.head.c0
    obtain ⟨l, hl⟩ : ∃ l, l = hs.map pair := ⟨_, rfl⟩
    obtain ⟨w6, hrun6, hR6, hb6, hz6⟩ := SMap.range (t := 41) us Try.underlying41 z2.map
    rw [← hl] at hR6
    have HT0 : Hid (TwSt W w6 p mb p' mb' Wz.heap.size hs d [] l.length []) := Lib.hid ⟨by rw [← hl]; exact hR6, z1.stays fun k hk => hb6.block k (z1.lt hk), z3.trans (hb6.mono z3.size), (fun k hk => by
      rcases hk with hk | hk | ⟨x, hx, _⟩
      · rw [hk]; exact HM.out.2.2.1
      · rw [hk]; exact HM.out.2.2.2
      · cases hx), z1.map.lt⟩
    obtain ⟨r, hr⟩ : ∃ r, r = Wz.heap.size := ⟨_, rfl⟩
    rw [← hr] at hrun6 HT0
    have HL := Lib.hid hl
    clear z1 z2 z3 hR6 hb6 hz6 hr hl c1 c2 k1 k2 f1 f2
    have HLn : Hid (l.length ≤ 100000000) := Lib.hid (by
      have h1 := Dk.fsLoad_len d.files
      have h2 := HS.out.load
      have h3 : Dk.load d = Dk.fsLoad d.files := rfl
      rw [HL.out, List.length_map]
      have h4 := congrArg List.length HS.out.fs
      rw [List.length_map] at h4
      omega)
    go_wp2_with fail
    go_loopw [4] (fun _ wr => ∃ (done : Sm.Row) (cnt : Nat) (hs' : List Hm), TwSt W wr p mb p' mb' r hs d done cnt hs' ∧ hs'.length + cnt ≤ l.length) (fun _ wr => wr.rangeLeft mb r)
    case atStart => exact ⟨[], l.length, [], HT0.out, Nat.le_of_eq (Nat.zero_add _)⟩
    case round =>
      obtain ⟨done, cnt, hs', hT, hcs⟩ := hrel
      rcases SRg.next us hT.rg 0 with ⟨hc0, hperm, hrun⟩ | ⟨q, w2, cnt', hq, hnd, hrun, hR2, hlt, hg2, hs2, hen⟩
      · have HE : Hid (DmAt wr p' (Bks p' mb' hs') d ∧ (∀ k, Bks p' mb' hs' k → W.heap.size ≤ k) ∧ Below W.heap.size W wr) := Lib.hid ⟨by
          have h1 := DmAt.mk hT.st
          rw [came_all HS.out hperm] at h1
          exact h1, hT.new, hT.bl⟩
        clear hT hperm hcs hc0
        go_wp2_with fail
        go_ret
        exact ⟨p', _, rfl, HE.out.1, HE.out.2.1, HE.out.2.2⟩
      · obtain ⟨g, hg, rfl⟩ := List.mem_map.1 hq
        have hrlt := hT.rg.lt
        have hblk2 : ∀ k, k < wr.heap.size → k ≠ r → w2.heap[k]? = wr.heap[k]? := fun k hk hne => hg2.block k hk fun e => hne (by injection e)
        have hst2 : DkS w2 p' mb' hs' ⟨came d.files done, d.off, d.left⟩ := hT.st.stays fun k hk => hblk2 k (hT.st.lt hk) fun e => by
          subst e
          obtain ⟨x1, x2, x3, x4, h1⟩ := hT.rg.obj
          rcases hk with hk | hk | ⟨x, hx, hxk⟩
          · have h2 := hT.st.head
            unfold HAt at h2
            rw [← hk, h1] at h2
            cases h2
          · have := hT.r
            omega
          · obtain ⟨cur, T, h2, _⟩ := (hT.st.ok x hx).obj hxk
            rw [h1] at h2
            cases h2
        have hb2 : Below W.heap.size W w2 := hT.bl.grown hg2 hT.bl.size fun j hj => by
          have : r = j := by injection hj
          have := hT.r
          have := HM.out.2.2.2
          omega
        have hgf : FAt w2 g := (HS.out.ok g hg).below hb2 (Nat.le_refl _)
        have hfl := fl_load HS.out hg
        have hSl := HS.out.load
        have hfl2 : 1 + g.f.name.size + g.f.recs.length + Dk.sz g.f.recs + g.f.torn.size ≤ Dk.load d := hfl
        have HFt := Lib.hid (ftwin_any w2 g hgf (by omega))
        have hrun' : Sem.run Try.prog (Instr.next (.pointer (some ⟨r, 0, none⟩)) false 0) wr = .ok (.tuple #[.bool true, .string g.f.name, .pointer (some ⟨g.b, 0, none⟩)]) w2 := hrun
        have hen' : Sem.run Try.prog (Instr.entry (.pointer (some ⟨r, 0, none⟩))) w2 = .ok (.tuple #[.string g.f.name, .pointer (some ⟨g.b, 0, none⟩)]) w2 := hen
        obtain ⟨nm, hnm⟩ : ∃ nm, nm = g.f.name := ⟨_, rfl⟩
        have hn8 : nm.size ≤ 100000000 := by rw [hnm]; omega
        rw [← hnm] at hrun' hen'
        have HQ := Lib.hid (And.intro hg (And.intro hR2 (And.intro hst2 (And.intro hb2 (And.intro hT.new (And.intro hT.r (And.intro hlt (And.intro hT.rg.left_eq (And.intro hcs (And.intro hn8 hnm))))))))))
        have hlen : (hs'.map pair).length < maxLen := by
          have := HLn.out
          rw [List.length_map]
          simp only [maxLen]
          omega
        have HLe := Lib.hid hlen
        clear hT hcs hq hnd hrun hR2 hlt hg2 hs2 hen hrlt hblk2 hst2 hb2 hgf hfl hSl hfl2 hnm hn8 hlen hg
        go_wp2_with fail
        refine (HFt.out).mono ?_
        rintro e w3 ⟨h', rfl, g1, g2, g3, g4⟩
        obtain ⟨q1, q2, q3, q4, q5, q6, q7, q8, q9, q10, q11⟩ := HQ.out
        have hst3 := q3.stays (W' := w3) fun k hk => g4.block k (q3.lt hk)
        have HU := Lib.hid (dput_any w3 p' mb' _ _ _ hst3.head hst3.map HLe.out nm q10 h'.b)
        have HG := Lib.hid (And.intro g1 (And.intro g2 (And.intro g3 g4)))
        clear g1 g2 g3 g4 q1 q2 q3 q4 q5 q6 q7 q8 q9 q10 q11 hst3
        go_wp2_with fail
        refine (HU.out).mono ?_
        rintro e w4 ⟨rfl, hm4, hk4⟩
        have HR : Hid (TwSt W w4 p mb p' mb' r hs d (done ++ [pair g]) cnt' (hput hs' h')) := Lib.hid (by
          obtain ⟨q1, q2, q3, q4, q5, q6, q7, q8, q9, q10, q11⟩ := HQ.out
          obtain ⟨g1, g2, g3, g4⟩ := HG.out
          rw [q11] at hm4
          exact TwSt.more HS.out q1 HM.out.2.1 HM.out.2.2.2 q2 q3 q4 q5 q6 g4 g1 g2 g3 hm4 hk4)
        clear hm4 hk4
        go_wp2_with fail
        go_roundw
        case rel =>
          refine ⟨_, _, _, HR.out, ?_⟩
          have e1 := hput_len hs' h'
          have e2 := HQ.out.2.2.2.2.2.2.1
          have e3 := HQ.out.2.2.2.2.2.2.2.2.1
          omega
        case measure =>
          have e1 := HR.out.rg.left_eq
          have e2 := HQ.out.2.2.2.2.2.2.2.1
          have e3 := HQ.out.2.2.2.2.2.2.1
          omega
end Go.Proofs.Ytjmnoogaffjdiaa
