/-
  StableAfter walked.
-/
import Derived.Test.YtjhbpcecdhdnoaaGreatDoorRStAwZ
import Derived.Test.YtjhbpcecdhdnoaaGreatDoorRStCutFZ
import Derived.Test.YtjhbpcecdhdnoaaGreatDoorRStRAfterZ
import Derived.Test.YtjhbpcecdhdnoaaGreatDoorRStRightZ
import Derived.Test.YtjhbpcecdhdnoaaGreatDoorROpKZ
import Derived.Laws.AppendOwnNone
set_option linter.unusedSimpArgs false
set_option linter.unusedVariables false
namespace Go.Proofs.YtjhbpcecdhdnoaaGreatDoor
open Go.RowKit Go.Sort
def St.res (o : Option St.K) : St.K := o.getD St.zero
def St.cod (no : Int) (o : Option St.K) : Int := if o.isSome then 0 else no
def RetSm (k : St.K) (c : Int) (w : World) (e : Ending) (w' : World) : Prop := ∃ A cp, e = .returned (.tuple #[.agg (kC k (.slice A k.ents.length cp)), .int .i64 c]) ∧ Lies w' A (ec k.ents) ∧ Below w.heap.size w w'
theorem sm_of_e {no : Int} {o : Option St.K} {w : World} {e : Ending} {w' : World} (h : RetAfE no o w e w') : RetSm (St.res o) (St.cod no o) w e w' := by
  cases o with
  | none => exact ⟨none, 0, h.1, .inl rfl, h.2⟩
  | some k => obtain ⟨A, c, he, ho, hb⟩ := h; exact ⟨A, c, he, lies_own13 ho, hb⟩
theorem sm_of_r {no : Int} {o : Option St.K} {w : World} {e : Ending} {w' : World} (h : RetRA no o w e w') : RetSm (St.res o) (St.cod no o) w e w' := by
  cases o with
  | none => exact ⟨none, 0, h.1, .inl rfl, h.2⟩
  | some k => obtain ⟨A, c, he, ho, hb⟩ := h; exact ⟨A, c, he, ho, hb⟩
def RetSf (k : St.K) (c : Int) (w : World) (e : Ending) (w' : World) : Prop := ∃ A cp, e = .returned (.tuple #[.agg (kC k (.slice A k.ents.length cp)), .int .i64 c]) ∧ Lies w' A (ec k.ents) ∧ Below w.heap.size w w' ∧ ∀ b off, A = some ⟨b, off, none⟩ → w.heap.size ≤ b
theorem sm_of_c {no : Int} {o : Option St.K} {w : World} {e : Ending} {w' : World} (h : RetRC no o w e w') : RetSf (St.res o) (St.cod no o) w e w' := by
  cases o with
  | none => exact ⟨none, 0, h.1, .inl rfl, h.2, fun b off e => by cases e⟩
  | some k => obtain ⟨A, c, he, ho, hb, hf⟩ := h; exact ⟨A, c, he, ho, hb, hf⟩
theorem after_lens : ∀ (l : List Wl.R) {k k' : St.K}, St.after k l = some k' → k'.ents.length ≤ k.ents.length + l.length
  | [], k, k', h => by cases h; exact Nat.le_refl _
  | r :: l, k, k', h => by
    unfold St.after at h
    cases h1 : St.one k r with
    | none => rw [h1] at h; cases h
    | some k1 =>
      rw [h1] at h
      have := after_lens l h
      have := (one_len h1).1
      rw [List.length_cons]; omega
theorem res_after {k : St.K} {l : List Wl.R} (h : k.ents.length + l.length ≤ 1000000) : (St.res (St.after k l)).ents.length ≤ 1000000 := by
  cases ha : St.after k l with
  | none => exact Nat.zero_le _
  | some k' => exact Nat.le_trans (after_lens l ha) h
theorem res_cut {k : St.K} {s : St.Sn} (h : k.ents.length ≤ 1000000) : (St.res (St.cut k s)).ents.length ≤ 1000000 := by
  unfold St.cut
  split
  · exact Nat.zero_le _
  · show (if _ then _ else _ : List En.E).length ≤ _
    split
    · rw [List.length_drop]; omega
    · exact Nat.zero_le _
structure Sa (W : World) (g : Nat) (X S : Array Value) (W1 : World) : Prop where
  kr : Rw W1 g X 58
  sr : Rw W1 (g + 1) S 55
  bl : Bl W W1
theorem Sa.bel {W : World} {g : Nat} {X S : Array Value} {W1 W2 : World} (h : Sa W g X S W1) (hb : Below W1.heap.size W1 W2) : Sa W g X S W2 := ⟨h.kr.bel hb, h.sr.bel hb, h.bl.next hb⟩
theorem sa_of (W : World) (X S : Array Value) : Sa W W.heap.size X S ((W.alloc (.cells X 58)).alloc (.cells S 55)) := by
  have e1 : (W.alloc (.cells X 58)).heap.size = W.heap.size + 1 := by simp
  refine ⟨(Rw.new W _ _).alloc _, ?_, ((Bl.refl W).alloc _).alloc _⟩
  have := Rw.new (W.alloc (.cells X 58)) S 55
  rw [e1] at this
  exact this
structure Bx (W1 : World) (p : Nat) (k : St.K) (T : TypeId) (A : Option Addr) (c : Nat) : Prop where
  row : Rw W1 p (kC k (.slice A k.ents.length c)) T
  lies : Lies W1 A (ec k.ents)
theorem Bx.bel {W1 W2 : World} {p : Nat} {k : St.K} {T : TypeId} {A : Option Addr} {c : Nat} (h : Bx W1 p k T A c) (hb : Below W1.heap.size W1 W2) : Bx W2 p k T A c := ⟨h.row.bel hb, h.lies.below hb⟩
theorem bx_put {w0 w : World} {p : Nat} {k : St.K} {A : Option Addr} {c : Nat} {T : TypeId} (hb0 : Below w0.heap.size w0 w) (hz : Rw w p zK T) (hp : w0.heap.size ≤ p) (hl : Lies w A (ec k.ents)) (hf : ∀ b off, A = some ⟨b, off, none⟩ → ec k.ents ≠ [] → b ≠ p) :
    (storeCells ⟨p, 0, none⟩ (kC k (.slice A k.ents.length c)).toList 0).run Tryz.prog w = .ok () (w.setCells p 0 (kC k (.slice A k.ents.length c)).toList) ∧ Below w0.heap.size w0 (w.setCells p 0 (kC k (.slice A k.ents.length c)).toList) ∧ Bx (w.setCells p 0 (kC k (.slice A k.ents.length c)).toList) p k T A c :=
  ⟨store_any11 w p zK _ hz rfl rfl (kC_one _ _ _ _), setCells_below hp _ _ _ hb0, hz.over rfl, lies_puts hl hf _ _⟩
theorem lies_lt {w : World} {A : Option Addr} {vs : List Value} (h : Lies w A vs) : ∀ b off, A = some ⟨b, off, none⟩ → vs ≠ [] → b < w.heap.size := fun b off e hne => by
  rcases h with h | ⟨b', off', e', hlt, _⟩
  · exact absurd h hne
  · rw [e] at e'
    injection e' with e'
    injection e' with e'
    omega
theorem bx_new {w w' : World} {k : St.K} {A : Option Addr} {c : Nat} (T : TypeId) (hb : Below w.heap.size w w') (hl : Lies w' A (ec k.ents)) :
    Below w.heap.size w ((w'.alloc (.cells zK T)).setCells w'.heap.size 0 (kC k (.slice A k.ents.length c)).toList) ∧ Bx ((w'.alloc (.cells zK T)).setCells w'.heap.size 0 (kC k (.slice A k.ents.length c)).toList) w'.heap.size k T A c :=
  (bx_put (bnew hb _) (Rw.new w' zK T) hb.size (hl.below (bnew (Below.refl _ _) _)) fun b off e hne => by have := lies_lt hl b off e hne; omega).2
theorem app_lies {P : Program} {w : World} {ops : Array Oper} {rest : List Oper} {o : Oper} {a : Act} {Q : Exit → Act → World → Prop} (hgd : o.guard = none) (s x : Operand) (t : TypeId)
    (ho : o.op = .call { callee := .builtin .append, args := #[s, x], argTypes := #[t, t] })
    (base : Nat) (e : TypeId) (i : TypeInfo) (z : Value) (size bytes : Nat) (ht : P.underlying t = some (.slice e)) (hi : P.info? e = some i) (hz : i.zero = some z)
    (hsize : i.size = size) (hby : i.bytes = bytes) (hzs : z.cells.size = size) (hsz : 0 < size)
    (v : Value) (n : Nat) (xs : List Value) (hs : a.eval s = v) (hown : w.ownsRow base e size v n xs)
    (A : Option Addr) (m c : Nat) (news : List Value) (hx : a.eval x = .slice A m c) (hl : news.length = m * size) (hA : Lies w A news) (hnil : A = none → c = 0) (h1 : ∀ u ∈ news, u.oneCell' = true)
    (h63 : n + m ≤ maxLen) (hbytes : (n + m) * bytes ≤ 140737488355328) (hbase : base ≤ w.heap.size)
    (h : ∀ v' w', w'.ownsRow base e size v' (n + m) (xs ++ news) → w.grownBy w' v.ownBlock → wpList P ops Q rest (a.put o.dst v') w') : wpList P ops Q (o :: rest) a w := by
  cases A with
  | none =>
    have hnn : news = [] := by
      rcases hA with h | ⟨_, _, h, _⟩
      · exact h
      · cases h
    subst hnn
    have hm : m = 0 := by
      rw [List.length_nil] at hl
      rcases Nat.mul_eq_zero.1 hl.symm with h | h <;> omega
    subst hm
    have hc := hnil rfl
    subst hc
    exact wpList_append_own_none hgd s x t ho base e i size ht hi v n xs hs hown hx (h v w (by simpa using hown) (World.grownBy.refl w _))
  | some ad =>
    refine wpList_app_own hgd s x t ho base e i z size bytes ht hi hz hsize hby hzs hsz v n xs hs hown ad m c news hx hl (fun j u hu => ?_) h1 h63 hbytes hbase fun v' w' h1 h2 _ => h v' w' h1 h2
    rcases hA with h | ⟨b, off, he, _, hc⟩
    · rw [h] at hu; cases hu
    · injection he with he
      subst he
      rw [addr_off]
      exact hc j u hu
section
variable {P : Program} {ops : Array Oper} {Q : Act → Prop} {a : Act} {o : Oper} {rest : List Oper}
theorem wpQuiet_built {C : World → Prop} (hw : Region.wanted o (yielded ops a.tmps) = true) (t : TypeId) (parts : Array (Nat × Operand)) (ho : o.op = .build t parts) (cs : Array Value)
    (hb : P.built t (parts.map fun (i, x) => (i, a.eval x)).toList = some cs) (h : wpQuiet P ops C Q rest (a.put o.dst (.agg cs))) : wpQuiet P ops C Q (o :: rest) a :=
  BigFrame.wpQuiet_want hw fun K hK => ⟨.agg cs, fun w' hw' => by
    unfold Oper.quietAt execOp
    simp only [ho, Sem.run_bind, run_build w' t _ cs hb, Result.andThen_ok]
    exact ⟨rfl, rfl⟩, hK _ h⟩
end
theorem sm_same (k : St.K) (A B : Option Addr) (ca cb : Nat) (W : World) (hA : Lies W A (ec k.ents)) (hB : Lies W B (ec k.ents)) (hn : k.ents.length ≤ 1000000) (d : Nat) (os : Array Obj) :
    Calls Tryz.prog 26 #[.agg (kC k (.slice A k.ents.length ca)), .agg (kC k (.slice B k.ents.length cb))] (grow (redrawn W d) os) fun e w' => e = .returned (.bool true) ∧ Below (grow (redrawn W d) os).heap.size (grow (redrawn W d) os) w' := by
  have h := same9_any k k A B ca cb (grow (redrawn W d) os) (hA.below (below_regrown W d os)) (hB.below (below_regrown W d os)) hn hn
  rw [kE_refl] at h
  exact h
theorem forgetX {E : Exit → Act → World → Prop} {x : Exit} {a : Act} {w : World} (F : World → Prop) (hF : F w) (h : ∀ W, F W → E x a W) : E x a w := h w hF
theorem cutq {G C : Prop} (h : Hid G → C) (g : G) : C := h (Lib.hid g)
abbrev zR (w : World) : World := w.alloc (.cells zK 62)
theorem b_zR {w : World} : Below w.heap.size w (zR w) := bnew (Below.refl _ _) _
structure Sb (W : World) (g : Nat) (k : St.K) (A : Option Addr) (c : Nat) (s : St.Sn) (A7 : Option Addr) (p8 : Nat) (A8 : Option Addr) (c8 : Nat) (ka : St.K) (p9 : Nat) (A9 : Option Addr) (c9 : Nat) (pc : Nat) (Ac : Option Addr) (cc : Nat) (kd : St.K) (w : World) : Prop where
  sa : Sa W g (kC k (.slice A k.ents.length c)) (snC s) w
  own : Lies w A7 (ec k.ents)
  b8 : Bx w p8 ka 58 A8 c8
  b9 : Bx w p9 ka 62 A9 c9
  bc : Bx w pc kd 58 Ac cc
section
variable {W : World} {g : Nat} {k : St.K} {A : Option Addr} {c : Nat} {s : St.Sn} {A7 : Option Addr} {p8 : Nat} {A8 : Option Addr} {c8 : Nat} {ka : St.K} {p9 : Nat} {A9 : Option Addr} {c9 : Nat} {pc : Nat} {Ac : Option Addr} {cc : Nat} {kd : St.K} {W7 : World}
theorem Sb.bel {w : World} (H : Sb W g k A c s A7 p8 A8 c8 ka p9 A9 c9 pc Ac cc kd W7) (hb : Below W7.heap.size W7 w) : Sb W g k A c s A7 p8 A8 c8 ka p9 A9 c9 pc Ac cc kd w := ⟨H.sa.bel hb, H.own.below hb, H.b8.bel hb, H.b9.bel hb, H.bc.bel hb⟩
variable {w2 w3 : World} {A14 : Option Addr} {c14 : Nat} {kd' : St.K}
theorem sb_s1 (H : Sb W g k A c s A7 p8 A8 c8 ka p9 A9 c9 pc Ac cc kd W7) (h2 : Below W7.drew.heap.size W7.drew w2) (h3 : Below w2.heap.size w2 w3) (hl : Lies w3 A14 (ec kd'.ents)) :
    (storeCells ⟨w3.heap.size, 0, none⟩ (kC kd' (.slice A14 kd'.ents.length c14)).toList 0).run Tryz.prog (zR w3) = .ok () ((zR w3).setCells w3.heap.size 0 (kC kd' (.slice A14 kd'.ents.length c14)).toList) ∧ Sb W g k A c s A7 p8 A8 c8 ka p9 A9 c9 pc Ac cc kd ((zR w3).setCells w3.heap.size 0 (kC kd' (.slice A14 kd'.ents.length c14)).toList) ∧ Bx ((zR w3).setCells w3.heap.size 0 (kC kd' (.slice A14 kd'.ents.length c14)).toList) w3.heap.size kd' 62 A14 c14 := by
  have hb : Below W7.heap.size W7 w3 := bnext (b_drew.trans h2) h3
  obtain ⟨h1, h2, h3⟩ := bx_put (w0 := W7) (c := c14) (k := kd') (bnext hb b_zR) (Rw.new w3 zK 62) hb.size (hl.below b_zR) fun b off e hne => by have := lies_lt hl b off e hne; omega
  exact ⟨h1, H.bel h2, h3⟩
theorem sb_s2 (H : Sb W g k A c s A7 p8 A8 c8 ka p9 A9 c9 pc Ac cc kd W7) (h2 : Below W7.drew.heap.size W7.drew w2) (h3 : Below (zR w2).heap.size (zR w2) w3) (hl : Lies w3 A14 (ec kd'.ents)) (hf : ∀ b off, A14 = some ⟨b, off, none⟩ → (zR w2).heap.size ≤ b) :
    (storeCells ⟨w2.heap.size, 0, none⟩ (kC kd' (.slice A14 kd'.ents.length c14)).toList 0).run Tryz.prog w3 = .ok () (w3.setCells w2.heap.size 0 (kC kd' (.slice A14 kd'.ents.length c14)).toList) ∧ Sb W g k A c s A7 p8 A8 c8 ka p9 A9 c9 pc Ac cc kd (w3.setCells w2.heap.size 0 (kC kd' (.slice A14 kd'.ents.length c14)).toList) ∧ Bx (w3.setCells w2.heap.size 0 (kC kd' (.slice A14 kd'.ents.length c14)).toList) w2.heap.size kd' 62 A14 c14 := by
  have hb : Below W7.heap.size W7 w2 := b_drew.trans h2
  have e : (zR w2).heap.size = w2.heap.size + 1 := by simp
  obtain ⟨h1, h2, h3⟩ := bx_put (w0 := W7) (c := c14) (k := kd') (bnext (bnext hb b_zR) h3) ((Rw.new w2 zK 62).bel h3) hb.size hl fun b off e' hne => by have := hf b off e'; omega
  exact ⟨h1, H.bel h2, h3⟩
theorem sb_s3 (H : Sb W g k A c s A7 p8 A8 c8 ka p9 A9 c9 pc Ac cc kd W7) (h2 : Below (zR W7).drew.heap.size (zR W7).drew w2) (h3 : Below w2.heap.size w2 w3) (hl : Lies w3 A14 (ec kd'.ents)) (hf : ∀ b off, A14 = some ⟨b, off, none⟩ → w2.heap.size ≤ b) :
    (storeCells ⟨W7.heap.size, 0, none⟩ (kC kd' (.slice A14 kd'.ents.length c14)).toList 0).run Tryz.prog w3 = .ok () (w3.setCells W7.heap.size 0 (kC kd' (.slice A14 kd'.ents.length c14)).toList) ∧ Sb W g k A c s A7 p8 A8 c8 ka p9 A9 c9 pc Ac cc kd (w3.setCells W7.heap.size 0 (kC kd' (.slice A14 kd'.ents.length c14)).toList) ∧ Bx (w3.setCells W7.heap.size 0 (kC kd' (.slice A14 kd'.ents.length c14)).toList) W7.heap.size kd' 62 A14 c14 := by
  have hb : Below W7.heap.size W7 w2 := bnext (bnext b_zR b_drew) h2
  have e : (zR W7).drew.heap.size = W7.heap.size + 1 := by show (zR W7).heap.size = _; simp
  obtain ⟨h1, h2', h3'⟩ := bx_put (w0 := W7) (c := c14) (k := kd') (bnext hb h3) ((((Rw.new W7 zK 62).bel b_drew).bel h2).bel h3) (Nat.le_refl _) hl fun b off e' hne => by have := hf b off e'; have := h2.size; omega
  exact ⟨h1, H.bel h2', h3'⟩
end
section
variable {At : DkAt} (K : DiskK At)
include K
set_option maxRecDepth 100000 in
set_option maxHeartbeats 16000000 in
theorem stableAfter_walk (W : World) (k : St.K) (A : Option Addr) (c : Nat) (gk : GivenK W k A c) (l : List Wl.R) (AR : Option Addr) (cr : Nat) (gr : GivenR W AR l) (s : St.Sn) (gs : GivenS s) (hE : EnvT W ∧ EnvE W) :
    Calls Tryz.prog 4 #[.agg (kC k (.slice A k.ents.length c)), .slice AR l.length cr, .agg (snC s)] W (RetTr true W) := by
  have HAw := Lib.hid (fun w (h : Below W.heap.size W w) => awake9_any K w ⟨hE.1.below h (Nat.le_refl _), hE.2.below h (Nat.le_refl _)⟩)
  have HGk := Lib.hid gk
  have HGl := Lib.hid gr
  have HGsn := Lib.hid gs
  have HGr := Lib.hid (fun w (h : Below W.heap.size W w) => greatRecs_any l AR cr w (gr.lies.below h) gr.len)
  have HGs := Lib.hid (fun w => greatSnap_any s gs.idx gs.sec w)
  have HGp := Lib.hid (fun w => greatSnap_any k.snap gk.snap.idx gk.snap.sec w)
  have HGv := Lib.hid (fun w => given9_any k A k.ents.length c w)
  have HRt := Lib.hid (fun w (h : Below W.heap.size W w) (hn : k.ents.length ≤ 1000000) => rright9_any k A c w (gk.lies.below h) gk.snap.idx gk.snap.trm hn (fun e he => ⟨(gk.fits e he).1.idx, (gk.fits e he).1.trm⟩))
  have hkl := gk.len
  unfold RetTr at HGs HGp
  unfold kC at HGv HRt
  unfold snC at HGs HGp
  clear gk gr gs hE
  go_enter Tryz.func4, Tryz.ntmps4
  go_upto_region 1 with (fail)
  refine forget (Sa W W.heap.size (kC k (.slice A k.ents.length c)) (snC s)) (sa_of W _ _) ?_
  intro W1 H1
  obtain ⟨g, hg⟩ : ∃ g, g = W.heap.size := ⟨_, rfl⟩
  have hsz1 : (W.alloc (.cells (kC k (.slice A k.ents.length c)) 58)).heap.size = W.heap.size + 1 := by simp
  try rw [hsz1]
  rw [← hg] at H1 ⊢
  have HI := Lib.hid H1
  clear H1 hsz1 hg
  cases hgr : Wl.great l with
  | true =>
    rw [hgr] at HGr
    go_wp2_with fail
    refine (HGr.out _ HI.out.bl.bel).mono ?_
    rintro e w2 ⟨rfl, hb2⟩
    replace HI := Lib.hid (HI.out.bel hb2)
    clear hb2
    go_wp2_with fail
    refine (HAw.out _ HI.out.bl.bel).mono ?_
    rintro e w9 ⟨rfl, hb9⟩
    have HB9 := Lib.hid (bnext HI.out.bl.bel hb9)
    clear hb9
    go_wp2_with fail
    go_ret
    exact ⟨rfl, HB9.out⟩
  | false =>
  rw [hgr] at HGr
  have HSl := Lib.hid (Wl.small_of hgr)
  clear hgr
  go_wp2_with fail
  refine (HGr.out _ HI.out.bl.bel).mono ?_
  rintro e w2 ⟨rfl, hb2⟩
  replace HI := Lib.hid (HI.out.bel hb2)
  clear hb2 HGr
  obtain ⟨z0, z1, z2, z3, z4, z5, z6, z7⟩ := sn_cells HI.out.sr
  cases hgs : gsn s with
  | true =>
    rw [hgs] at HGs
    go_wp2_with fail
    refine (HGs.out _).mono ?_
    rintro e w3 ⟨rfl, hb3⟩
    replace HI := Lib.hid (HI.out.bel hb3)
    clear hb3 z0 z1 z2 z3 z4 z5 z6 z7
    go_wp2_with fail
    refine (HAw.out _ HI.out.bl.bel).mono ?_
    rintro e w9 ⟨rfl, hb9⟩
    have HB9 := Lib.hid (bnext HI.out.bl.bel hb9)
    clear hb9
    go_wp2_with fail
    go_ret
    exact ⟨rfl, HB9.out⟩
  | false =>
  rw [hgs] at HGs
  have HSs := Lib.hid (gsn_no hgs)
  clear hgs
  go_wp2_with fail
  refine (HGs.out _).mono ?_
  rintro e w3 ⟨rfl, hb3⟩
  replace HI := Lib.hid (HI.out.bel hb3)
  clear hb3 HGs z0 z1 z2 z3 z4 z5 z6 z7
  obtain ⟨x0, x1, x2, x3, x4, x5, x6, x7, x8, x9, x10⟩ := kc_cells HI.out.kr
  cases hgp : gsn k.snap with
  | true =>
    rw [hgp] at HGp
    go_wp2_with fail
    refine (HGp.out _).mono ?_
    rintro e w4 ⟨rfl, hb4⟩
    replace HI := Lib.hid (HI.out.bel hb4)
    clear hb4 x0 x1 x2 x3 x4 x5 x6 x7 x8 x9 x10
    go_wp2_with fail
    refine (HAw.out _ HI.out.bl.bel).mono ?_
    rintro e w9 ⟨rfl, hb9⟩
    have HB9 := Lib.hid (bnext HI.out.bl.bel hb9)
    clear hb9
    go_wp2_with fail
    go_ret
    exact ⟨rfl, HB9.out⟩
  | false =>
  rw [hgp] at HGp
  have HSp := Lib.hid (gsn_no hgp)
  clear hgp
  go_wp2_with fail
  refine (HGp.out _).mono ?_
  rintro e w4 ⟨rfl, hb4⟩
  replace HI := Lib.hid (HI.out.bel hb4)
  clear hb4 HGp x0 x1 x2 x3 x4 x5 x6 x7 x8 x9 x10
  obtain ⟨x0, x1, x2, x3, x4, x5, x6, x7, x8, x9, x10⟩ := kc_cells HI.out.kr
  by_cases h40 : 40 < k.ents.length
  · have b1 : decide ((40 : Int) < (k.ents.length : Int)) = true := by simp; omega
    have b2 : ((40 : Int) < (k.ents.length : Int)) = True := by simp; omega
    clear h40
    go_wp2_with fail
    refine (HAw.out _ HI.out.bl.bel).mono ?_
    rintro e w9 ⟨rfl, hb9⟩
    have HB9 := Lib.hid (bnext HI.out.bl.bel hb9)
    clear hb9
    go_wp2_with fail
    go_ret
    exact ⟨rfl, HB9.out⟩
  have b1 : decide ((40 : Int) < (k.ents.length : Int)) = false := by simp; omega
  have b2 : ((40 : Int) < (k.ents.length : Int)) = False := by simp; omega
  have hn40 : k.ents.length ≤ 40 := by omega
  clear h40
  go_wp2_with fail
  refine (HGv.out _).mono ?_
  rintro e w5 ⟨rfl, hb5⟩
  replace HI := Lib.hid (HI.out.bel hb5)
  clear hb5 b1 b2 x0 x1 x2 x3 x4 x5 x6 x7 x8 x9 x10
  go_wp2_with fail
  refine (HRt.out _ HI.out.bl.bel (by omega)).mono ?_
  rintro e w6 ⟨⟨b, rfl, hfit⟩, hb6⟩
  replace HI := Lib.hid (HI.out.bel hb6)
  clear hb6 HRt
  cases b with
  | false =>
    clear hfit
    go_wp2_with fail
    refine (HAw.out _ HI.out.bl.bel).mono ?_
    rintro e w9 ⟨rfl, hb9⟩
    have HB9 := Lib.hid (bnext HI.out.bl.bel hb9)
    clear hb9
    go_wp2_with fail
    go_ret
    exact ⟨rfl, HB9.out⟩
  | true =>
  have HFt := Lib.hid (hfit rfl)
  clear hfit
  go_upto_region 3 with (fail)
  refine forget (Sa W g (kC k (.slice A k.ents.length c)) (snC s)) HI.out ?_
  intro W3 H3
  have HI3 := Lib.hid H3
  clear H3 HI
  have hmx : (100000000 : Nat) ≤ maxLen := by simp [maxLen]
  have HAf : Hid (∀ w, Below W.heap.size W w → Calls Tryz.prog 22 #[.agg (kC k (.slice A k.ents.length c)), .slice AR l.length cr] w (RetSm (St.res (St.after k l)) (St.cod 1 (St.after k l)) w)) := Lib.hid fun w h =>
    (afterF_any w k A c l AR cr (HGk.out.lies.below h) HGk.out.form (fun i hi => by have := HSp.out.1 i hi; omega) (HGl.out.lies.below h) HGk.out.snap.idx (by have := HSl.out.1; omega) (fun e he => Nat.le_trans (HGk.out.fits e he).2 (by decide)) ⟨fun r hr => ⟨HGl.out.fits r hr, by have := HSl.out.2 r hr; omega⟩, by have := HSl.out.1; omega⟩).mono fun _ _ => sm_of_e
  have HRa : Hid (∀ w, Below W.heap.size W w → Calls Tryz.prog 23 #[.agg (kC k (.slice A k.ents.length c)), .slice AR l.length cr] w (RetSm (St.res (St.after k l)) (St.cod 1 (St.after k l)) w)) := Lib.hid fun w h =>
    (rafter_any k A c l AR cr w (HGk.out.lies.below h) (HGl.out.lies.below h) HFt.out (by have := HSl.out.1; have := HSp.out.2; omega) (by have := HSl.out.1; omega) HGl.out.fits).mono fun _ _ => sm_of_r
  have HCu : Hid (∀ w, Below W.heap.size W w → Calls Tryz.prog 24 #[.agg (kC k (.slice A k.ents.length c)), .agg (snC s)] w (RetSm (St.res (St.cut k s)) (St.cod 10 (St.cut k s)) w)) := Lib.hid fun w h =>
    (cutF_any w k A c s (HGk.out.lies.below h) HGk.out.form (fun i hi => by have := HSp.out.1 i hi; omega) HGk.out.snap.idx HGsn.out.idx HGsn.out.trm (fun i hi => by have := HSs.out.1 i hi; omega) (by omega) (fun e he => Nat.le_trans (HGk.out.fits e he).2 (by decide))).mono fun _ _ => sm_of_e
  have HRc : Hid (∀ w, Below W.heap.size W w → Calls Tryz.prog 25 #[.agg (kC k (.slice A k.ents.length c)), .agg (snC s)] w (RetSf (St.res (St.cut k s)) (St.cod 10 (St.cut k s)) w)) := Lib.hid fun w h =>
    (rcut_any k A c s w (HGk.out.lies.below h) HFt.out HGk.out.snap.idx HGsn.out.idx HGsn.out.trm (by have := HSp.out.2; omega) (by omega) (fun e he => (HGk.out.fits e he).1.trm)).mono fun _ _ => sm_of_c
  have Hna : Hid ((St.res (St.after k l)).ents.length ≤ 1000000) := Lib.hid (res_after (by have := HSl.out.1; omega))
  have Hnd : Hid ((St.res (St.cut k s)).ents.length ≤ 1000000) := Lib.hid (res_cut (by omega))
  generalize St.res (St.after k l) = ka at HAf HRa Hna
  generalize St.cod 1 (St.after k l) = ea at HAf HRa
  generalize St.res (St.cut k s) = kd at HCu HRc Hnd
  generalize St.cod 10 (St.cut k s) = ed at HCu HRc
  unfold kC RetSm at HAf HRa
  unfold kC snC RetSm at HCu
  unfold kC snC RetSf at HRc
  have HLi := HGk
  clear hmx HSl HSs HSp HFt HGl HGsn
  obtain ⟨y0, y1, y2, y3, y4, y5, y6, y7, y8, y9, x10⟩ := kc_cells (HI3.out.kr.alloc (.cells #[] 88))
  obtain ⟨i0, hi0, hz0, hz1, hz2⟩ := info_parts infoEn
  clear y0 y1 y2 y3 y4 y5 y6 y7 y8 y9
  have HNx : Hid (Lies (W3.alloc (.cells #[] 88)) A (ec k.ents) ∧ (A = none → c = 0)) := Lib.hid ⟨HGk.out.lies.below (bnew HI3.out.bl.bel _), HGk.out.form⟩
  go_wp2_with (at_builtin; refine app_lies rfl (.tmp 40) (.tmp 42) 56 rfl W3.heap.size 88 i0 (.agg (entC En.zero)) 13 48 Tryz.underlying56 hi0 hz0 hz1 hz2 rfl (by decide) _ _ _ rfl (own_none13 W3) A k.ents.length c (ec k.ents) rfl (by have := ec_length k.ents; omega) HNx.out.1 HNx.out.2 (ecs_one _) (by simp only [maxLen]; omega) (by omega) (by simp) ?_)
  intro v7 w7 ho7 hg7
  obtain ⟨A7, c7, rfl, _⟩ := own_slice ho7
  have hb7 : Below W3.heap.size W3 w7 := (bnew (Below.refl _ _) _).grown hg7 (by simp) (fun j hj => (own_lt (own_none13 W3) hj).2)
  have HF7 : Hid (Sa W g (kC k (.slice A k.ents.length c)) (snC s) w7 ∧ Lies w7 A7 (ec k.ents)) := Lib.hid ⟨HI3.out.bel hb7, lies_own13 ho7⟩
  clear ho7 hg7 hb7 x10 hi0 hz0 hz1 hz2 HNx HI3
  go_upto_region 4 with (fail)
  refine forget (fun w => Sa W g (kC k (.slice A k.ents.length c)) (snC s) w ∧ Lies w A7 (ec k.ents)) HF7.out ?_
  intro W4 H4
  clear HF7
  obtain ⟨x0, x1, x2, x3, x4, x5, x6, x7, x8, x9, x10⟩ := kc_cells H4.1.kr
  have HI4 := Lib.hid H4
  clear H4
  go_wp2_with fail
  refine (HAf.out _ HI4.out.1.bl.bel).mono ?_
  rintro e w8 ⟨A8, c8, rfl, hl8, hb8⟩
  have hBx := bx_new (c := c8) 58 hb8 hl8
  obtain ⟨Y8, hY⟩ : ∃ Y, Y = kC ka (.slice A8 ka.ents.length c8) := ⟨_, rfl⟩
  have HYs : Hid (11 = Y8.size ∧ Y8.all (·.oneCell') = true ∧ (Tryz.prog.info? 58).map (·.size) = some Y8.size) := Lib.hid (by rw [hY]; exact ⟨rfl, kC_one _ _ _ _, sizeKept' _ _⟩)
  rw [← hY] at hBx ⊢
  have HBx := Lib.hid hBx
  clear hBx hY
  clear hl8 hb8 x0 x1 x2 x3 x4 x5 x6 x7 x8 x9 x10 HAf
  go_upto_region 5 with (refine wpList_store_sub rfl 58 _ _ rfl w8.heap.size 0 rfl 58 zK Y8 rfl (Rw.new w8 zK _) (by rw [← HYs.out.1]; exact Nat.le_refl 11) HYs.out.2.2 HYs.out.2.1 ?_)
  refine forget (fun w => Sa W g (kC k (.slice A k.ents.length c)) (snC s) w ∧ Lies w A7 (ec k.ents) ∧ Bx w w8.heap.size ka 58 A8 c8) ⟨HI4.out.1.bel HBx.out.1, HI4.out.2.below HBx.out.1, HBx.out.2⟩ ?_
  clear HBx HI4 HYs
  generalize w8.heap.size = p8
  intro W5 H5
  obtain ⟨x0, x1, x2, x3, x4, x5, x6, x7, x8, x9, x10⟩ := kc_cells H5.1.kr
  have HI5 := Lib.hid H5
  clear H5
  go_wp2_with fail
  refine (HGv.out _).mono ?_
  rintro e wg ⟨rfl, hbg⟩
  have Hbg := Lib.hid hbg
  clear hbg x0 x1 x2 x3 x4 x5 x6 x7 x8 x9 x10
  go_wp2_with fail
  refine (HRa.out _ (HI5.out.1.bl.bel.trans (Hbg.out.mono HI5.out.1.bl.le))).mono ?_
  rintro e w9 ⟨A9, c9, rfl, hl9, hb9⟩
  have hBx := bx_new (c := c9) 62 (bnext Hbg.out hb9) hl9
  obtain ⟨Y9, hY⟩ : ∃ Y, Y = kC ka (.slice A9 ka.ents.length c9) := ⟨_, rfl⟩
  have HYs : Hid (11 = Y9.size ∧ Y9.all (·.oneCell') = true ∧ (Tryz.prog.info? 62).map (·.size) = some Y9.size) := Lib.hid (by rw [hY]; exact ⟨rfl, kC_one _ _ _ _, by kernel_rfl⟩)
  rw [← hY] at hBx ⊢
  have HBx := Lib.hid hBx
  clear hBx hY
  clear hl9 hb9 HRa Hbg
  go_upto_region 6 with (refine wpList_store_sub rfl 62 _ _ rfl w9.heap.size 0 rfl 62 zK Y9 rfl (Rw.new w9 zK _) (by rw [← HYs.out.1]; exact Nat.le_refl 11) HYs.out.2.2 HYs.out.2.1 ?_)
  refine forget (fun w => Sa W g (kC k (.slice A k.ents.length c)) (snC s) w ∧ Lies w A7 (ec k.ents) ∧ Bx w p8 ka 58 A8 c8 ∧ Bx w w9.heap.size ka 62 A9 c9) ⟨HI5.out.1.bel HBx.out.1, HI5.out.2.1.below HBx.out.1, HI5.out.2.2.bel HBx.out.1, HBx.out.2⟩ ?_
  clear HBx HI5 HYs
  generalize w9.heap.size = p9
  intro W6 H6
  obtain ⟨x0, x1, x2, x3, x4, x5, x6, x7, x8, x9, x10⟩ := kc_cells H6.1.kr
  obtain ⟨z0, z1, z2, z3, z4, z5, z6, z7⟩ := sn_cells H6.1.sr
  have HI6 := Lib.hid H6
  clear H6
  go_wp2_with fail
  refine (HCu.out _ HI6.out.1.bl.bel).mono ?_
  rintro e wc ⟨Ac, cc, rfl, hlc, hbc⟩
  have hBx := bx_new (c := cc) 58 hbc hlc
  obtain ⟨Yc, hY⟩ : ∃ Y, Y = kC kd (.slice Ac kd.ents.length cc) := ⟨_, rfl⟩
  have HYs : Hid (11 = Yc.size ∧ Yc.all (·.oneCell') = true ∧ (Tryz.prog.info? 58).map (·.size) = some Yc.size) := Lib.hid (by rw [hY]; exact ⟨rfl, kC_one _ _ _ _, sizeKept' _ _⟩)
  rw [← hY] at hBx ⊢
  have HBx := Lib.hid hBx
  clear hBx hY
  clear hlc hbc x0 x1 x2 x3 x4 x5 x6 x7 x8 x9 x10 z0 z1 z2 z3 z4 z5 z6 z7 HCu
  go_upto_region 7 with (refine wpList_store_sub rfl 58 _ _ rfl wc.heap.size 0 rfl 58 zK Yc rfl (Rw.new wc zK _) (by rw [← HYs.out.1]; exact Nat.le_refl 11) HYs.out.2.2 HYs.out.2.1 ?_)
  refine forget (Sb W g k A c s A7 p8 A8 c8 ka p9 A9 c9 wc.heap.size Ac cc kd) ⟨HI6.out.1.bel HBx.out.1, HI6.out.2.1.below HBx.out.1, HI6.out.2.2.1.bel HBx.out.1, HI6.out.2.2.2.bel HBx.out.1, HBx.out.2⟩ ?_
  clear HBx HI6 HYs
  generalize wc.heap.size = pc
  apply cutq
  case h =>
    intro key
    intro W7 H7
    have HI7 := Lib.hid H7
    obtain ⟨x0, x1, x2, x3, x4, x5, x6, x7, x8, x9, x10⟩ := kc_cells H7.sa.kr
    obtain ⟨u0, u1, u2, u3, u4, u5, u6, u7, u8, u9, u10⟩ := kc_cells (H7.sa.kr.bel (b_zR (w := W7)))
    obtain ⟨z0, z1, z2, z3, z4, z5, z6, z7⟩ := sn_cells H7.sa.sr
    obtain ⟨v0, v1, v2, v3, v4, v5, v6, v7⟩ := sn_cells (H7.sa.sr.bel (b_zR (w := W7)))
    have HBa : Hid (Below W.heap.size W W7.drew ∧ Below W.heap.size W (zR W7).drew) := Lib.hid ⟨below_drew H7.sa.bl, below_drew (bnext H7.sa.bl b_zR)⟩
    have HTa := Lib.hid (fun w2 (h2 : Below W7.drew.heap.size W7.drew w2) => And.intro (H7.sa.bel (b_drew.trans h2)) ((H7.sa.bel (b_drew.trans h2)).bel (b_zR (w := w2))))
    have HTb := Lib.hid (fun w2 (h2 : Below (zR W7).drew.heap.size (zR W7).drew w2) => H7.sa.bel (bnext (bnext b_zR b_drew) h2))
    have HS1 := Lib.hid (fun w2 w3 A14 c14 h2 h3 hl => sb_s1 H7 (w2 := w2) (w3 := w3) (A14 := A14) (c14 := c14) (kd' := kd) h2 h3 hl)
    have HS2 := Lib.hid (fun w2 w3 A14 c14 h2 h3 hl hf => sb_s2 H7 (w2 := w2) (w3 := w3) (A14 := A14) (c14 := c14) (kd' := kd) h2 h3 hl hf)
    have HS3 := Lib.hid (fun w2 w3 A14 c14 h2 h3 hl hf => sb_s3 H7 (w2 := w2) (w3 := w3) (A14 := A14) (c14 := c14) (kd' := kd) h2 h3 hl hf)
    have hZ11 : ∀ v, (kC kd v).size = 11 := fun _ => rfl
    clear H7
    unfold zR zK at u0 u1 u2 u3 u4 u5 u6 u7 u8 u9 u10 v0 v1 v2 v3 v4 v5 v6 v7 HBa HTa HTb HS1 HS2 HS3
    go_region_law (first
      | (go_simp; go_at_call 20; refine (HGv.out W7.drew).mono ?_; rintro e w2 ⟨rfl, hb2⟩; have ht := HTa.out w2 hb2; obtain ⟨r0, r1, r2, r3, r4, r5, r6, r7⟩ := sn_cells ht.1.sr; obtain ⟨s0, s1, s2, s3, s4, s5, s6, s7⟩ := sn_cells ht.2.sr; have HT2 := Lib.hid (And.intro hb2 ht); clear hb2 ht)
      | (go_simp; go_at_call 20; refine (HGv.out _).mono ?_; rintro e w2 ⟨rfl, hb2⟩; have ht := HTb.out w2 hb2; obtain ⟨r0, r1, r2, r3, r4, r5, r6, r7⟩ := sn_cells ht.sr; have HT3 := Lib.hid (And.intro hb2 ht); clear hb2 ht)
      | (go_simp; go_at_call 25; refine (HRc.out w2 HT2.out.2.1.bl.bel).mono ?_; rintro e w3 ⟨A14, c14, rfl, hl3, hb3, hf3⟩; obtain ⟨hst, hfin⟩ := HS1.out w2 w3 A14 c14 HT2.out.1 hb3 hl3; have HFn := Lib.hid hfin; clear hb3 hl3 hf3 hfin)
      | (go_simp; go_at_call 25; refine (HRc.out _ HT2.out.2.2.bl.bel).mono ?_; rintro e w3 ⟨A14, c14, rfl, hl3, hb3, hf3⟩; obtain ⟨hst, hfin⟩ := HS2.out w2 w3 A14 c14 HT2.out.1 hb3 hl3 hf3; have HFn := Lib.hid hfin; clear hb3 hl3 hf3 hfin)
      | (go_simp; go_at_call 25; refine (HRc.out w2 HT3.out.2.bl.bel).mono ?_; rintro e w3 ⟨A14, c14, rfl, hl3, hb3, hf3⟩; obtain ⟨hst, hfin⟩ := HS3.out w2 w3 A14 c14 HT3.out.1 hb3 hl3 hf3; have HFn := Lib.hid hfin; clear hb3 hl3 hf3 hfin))
    all_goals (
      clear x0 x1 x2 x3 x4 x5 x6 x7 x8 x9 x10 u0 u1 u2 u3 u4 u5 u6 u7 u8 u9 u10 z0 z1 z2 z3 z4 z5 z6 z7 v0 v1 v2 v3 v4 v5 v6 v7 hst
      first
        | (refine forgetX (fun w => Sb W g k A c s A7 p8 A8 c8 ka p9 A9 c9 pc Ac cc kd w ∧ Bx w w3.heap.size kd 62 A14 c14) HFn.out ?_; clear HFn; generalize w3.heap.size = pd)
        | (refine forgetX (fun w => Sb W g k A c s A7 p8 A8 c8 ka p9 A9 c9 pc Ac cc kd w ∧ Bx w w2.heap.size kd 62 A14 c14) HFn.out ?_; clear HFn; generalize w2.heap.size = pd)
        | (refine forgetX (fun w => Sb W g k A c s A7 p8 A8 c8 ka p9 A9 c9 pc Ac cc kd w ∧ Bx w W7.heap.size kd 62 A14 c14) HFn.out ?_; clear HFn; generalize W7.heap.size = pd)
      revert pd A14 c14
      exact key.out)
  case g =>
    intro A14 c14 pd W8 H8
    go_upto_region 8 with (fail)
    have HI8 := Lib.hid H8
    have j0 := fun d os => cell_regrown (kc_cells H8.1.sa.kr).1 d os
    have j1 := fun d os => cell_regrown (kc_cells H8.1.sa.kr).2.1 d os
    clear H8
    have HG8 := Lib.hid (fun k A n c w => given9_any k A n c w)
    have HS8 := Lib.hid (And.intro (fun d os => sm_same ka A8 A9 c8 c9 W8 HI8.out.1.b8.lies HI8.out.1.b9.lies Hna.out d os) (And.intro (fun d os => sm_same kd Ac A14 cc c14 W8 HI8.out.1.bc.lies HI8.out.2.lies Hnd.out d os) (fun d os => sm_same k A A7 c c7 W8 (HGk.out.lies.below HI8.out.1.sa.bl.bel) HI8.out.1.own (by omega) d os)))
    have HA8 : Hid (∀ d os, Calls Tryz.prog 21 #[] (grow (redrawn W8 d) os) fun e w' => e = .returned (.bool true) ∧ Below (grow (redrawn W8 d) os).heap.size (grow (redrawn W8 d) os) w') := Lib.hid fun d os => HAw.out _ (bnext HI8.out.1.sa.bl.bel (below_regrown W8 d os))
    have HSub : Hid (∀ j, j < (snC k.snap).size → (kC k (.slice A k.ents.length c))[2 + j]? = (snC k.snap)[j]?) := Lib.hid fun j hj => by
      have hj : j < 8 := hj
      rcases (show j = 0 ∨ j = 1 ∨ j = 2 ∨ j = 3 ∨ j = 4 ∨ j = 5 ∨ j = 6 ∨ j = 7 by omega) with rfl | rfl | rfl | rfl | rfl | rfl | rfl | rfl <;> rfl
    have HZs : Hid ((Tryz.prog.info? 55).map (·.size) = some (snC k.snap).size) := Lib.hid sizeSnap
    have HRK : Hid (∀ k v, (Tryz.prog.info? 62).map (·.size) = some (kC k v).size) := Lib.hid fun k v => by kernel_rfl
    refine wp_region_quiet_below (by kernel_rfl) (by kernel_rfl) ?_
    repeat (first
      | (refine wpQuiet_load_sub (by kernel_rfl) 58 _ rfl p8 0 rfl 58 _ (kC ka (.slice A8 ka.ents.length c8)) (0, 0) _ HI8.out.1.b8.row (fun j hj => by rw [Nat.zero_add]) Tryz.underlying58 rfl (sizeKept' _ _) ?_; (conv => arg 6; simp [Act.put]))
      | (refine wpQuiet_load_sub (by kernel_rfl) 62 _ rfl p9 0 rfl 62 _ (kC ka (.slice A9 ka.ents.length c9)) (0, 0) _ HI8.out.1.b9.row (fun j hj => by rw [Nat.zero_add]) Tryz.underlying62 rfl (HRK.out _ _) ?_; (conv => arg 6; simp [Act.put]))
      | (refine wpQuiet_load_sub (by kernel_rfl) 58 _ rfl pc 0 rfl 58 _ (kC kd (.slice Ac kd.ents.length cc)) (0, 0) _ HI8.out.1.bc.row (fun j hj => by rw [Nat.zero_add]) Tryz.underlying58 rfl (sizeKept' _ _) ?_; (conv => arg 6; simp [Act.put]))
      | (refine wpQuiet_load_sub (by kernel_rfl) 62 _ rfl pd 0 rfl 62 _ (kC kd (.slice A14 kd.ents.length c14)) (0, 0) _ HI8.out.2.row (fun j hj => by rw [Nat.zero_add]) Tryz.underlying62 rfl (HRK.out _ _) ?_; (conv => arg 6; simp [Act.put]))
      | (refine wpQuiet_load_sub (by kernel_rfl) 58 _ rfl g 0 rfl 58 _ (kC k (.slice A k.ents.length c)) (0, 0) _ HI8.out.1.sa.kr (fun j hj => by rw [Nat.zero_add]) Tryz.underlying58 rfl (sizeKept' _ _) ?_; (conv => arg 6; simp [Act.put]))
      | (refine wpQuiet_load_sub (by kernel_rfl) 55 _ rfl g 2 rfl 58 _ (snC k.snap) (0, 0) _ HI8.out.1.sa.kr HSub.out Tryz.underlying55 rfl HZs.out ?_; (conv => arg 6; simp [Act.put]))
      | (refine wpQuiet_built (by kernel_rfl) 62 _ rfl (kC k (.slice A7 k.ents.length c7)) (by kernel_rfl) ?_; (conv => arg 6; simp [Act.put]))
      | go_big_quiet_step (first
        | (go_at_call 20; exact Calls.regrown_of (HG8.out _ _ _ _ _))
        | (go_at_call 26; with_reducible exact Calls.regrown_of (HS8.out.1 _ _))
        | (go_at_call 26; with_reducible exact Calls.regrown_of (HS8.out.2.1 _ _))
        | (go_at_call 26; with_reducible exact Calls.regrown_of (HS8.out.2.2 _ _))
        | (go_at_call 21; exact Calls.regrown_of (HA8.out _ _))))
    refine wpQuiet_nil ?_
    intro _ hw'
    obtain ⟨pq, hw''⟩ := hw'
    subst hw''
    have HFz := Lib.hid (bnext HI8.out.1.sa.bl.bel (below_regrown W8 pq.d pq.os))
    clear j0 j1
    generalize Go.Sort.grow (redrawn W8 pq.d) pq.os = W9 at *
    go_wp2_with fail
    go_ret
    exact ⟨rfl, HFz.out⟩
end
end Go.Proofs.YtjhbpcecdhdnoaaGreatDoor
