/-
  msg.octets, truth and Write walked.
-/
import Derived.Test.YtpdahbfjbgcmgaaRMgRightA
import Derived.Test.YtpdahbfjbgcmgaaREnW
import Derived.Test.YtpdahbfjbgcmgaaRSb
import Derived.StillTailTactics
set_option linter.unusedSimpArgs false
set_option linter.unusedVariables false
namespace Go.Proofs.Ytpdahbfjbgcmgaa
open Go.RowKit
theorem lies_bytes {W : World} {A : Option Addr} {l : List UInt8} (h : Lies W A (bc l)) (hl : l ≠ []) : ∃ a, A = some a ∧ ∀ j (hj : j < l.length), W.cell? (a.add j) = some (.int .u8 (l[j].toNat : Int)) := by
  rcases h with h | ⟨b, off, rfl, _, hc⟩
  · exact absurd (by simpa [bc] using h) hl
  · refine ⟨_, rfl, fun j hj => ?_⟩
    have e : (⟨b, off, none⟩ : Addr).add j = ⟨b, off + j, none⟩ := by unfold Addr.add; split <;> simp_all
    rw [e]
    exact hc j _ (by simp [bc, hj])
set_option maxRecDepth 100000 in
theorem octets_any (l : List UInt8) (A : Option Addr) (n : Nat) (W : World) (hA : Lies W A (bc l)) (hl : l ≠ []) (hn : n = l.length) :
    Calls Try.prog 75 #[.slice A n n] W fun e w' => e = .returned (.string ⟨l.toArray⟩) ∧ W = w' := by
  obtain ⟨a, rfl, hc⟩ := lies_bytes hA hl
  have hcv := run_convert_bytes_back (P := Try.prog) W 36 9 5 a l.length l Try.underlying36 Try.underlying5 Try.underlying9 hc
  subst hn
  clear hA hc hl
  go_enter Try.func75, Try.ntmps75
  go_wp2_with fail
  go_ret
  exact ⟨rfl, rfl⟩
def tru (b : Bool) : Nat := if b then 1 else 0
set_option maxRecDepth 100000 in
theorem truthv_any (b : Bool) (W : World) : Calls Try.prog 77 #[.bool b] W fun e w' => e = .returned (.int .u8 (tru b : Int)) ∧ w' = W := by
  cases b
  · go_enter Try.func77, Try.ntmps77
    go_wp2_with fail
    go_ret
    exact ⟨rfl, rfl⟩
  · go_enter Try.func77, Try.ntmps77
    go_wp2_with fail
    go_ret
    exact ⟨rfl, rfl⟩
/-- A message being written: it lies in block g1, the builder in g3, with these bytes. -/
structure WSt (w W : World) (g1 g3 : Nat) (X : Array Value) (l : List UInt8) : Prop where
  b : Below w.heap.size w W
  l1 : w.heap.size ≤ g1
  n : g1 ≠ g3
  r : W.heap[g1]? = some (.cells X 63 (0, 0))
  s : ∃ o, SbAt w.heap.size W g3 o l ∧ o ≠ some g1
theorem WSt.grow {w W W' : World} {g1 g3 : Nat} {X : Array Value} {l : List UInt8} (h : WSt w W g1 g3 X l) (k : Below W.heap.size W W') : WSt w W' g1 g3 X l := by
  obtain ⟨o, h1, h2⟩ := h.s
  exact ⟨bnext h.b k, h.l1, h.n, (k.block _ (Array.getElem?_eq_some_iff.1 h.r).1).trans h.r, o, h1.bel k, h2⟩
theorem WSt.drew {w W : World} {g1 g3 : Nat} {X : Array Value} {l : List UInt8} (h : WSt w W g1 g3 X l) : WSt w W.drew g1 g3 X l := by
  obtain ⟨o, ⟨p, v, hP, ho⟩, h2⟩ := h.s
  exact ⟨below_drew h.b, h.l1, h.n, h.r, o, ⟨p, v, ⟨hP.hp, hP.row, hP.own, hP.lo⟩, ho⟩, h2⟩
set_option maxHeartbeats 1000000 in
theorem WSt.str {w W : World} {g1 g3 : Nat} {X : Array Value} {l : List UInt8} (h : WSt w W g1 g3 X l) (x : ByteArray) (hl : l.length ≤ 1000000000) (hx : x.size ≤ 1000000000) :
    Calls Try.prog 74 #[.pointer (some ⟨g3, 0, none⟩), .string x] W fun e w' => e = .returned (.tuple #[.int .i64 (x.size : Int), .nilIface]) ∧ WSt w w' g1 g3 X (l ++ x.data.toList) := by
  obtain ⟨o, h1, h2⟩ := h.s
  refine (sbStr_any w.heap.size W g3 o l x h1 hl hx).mono ?_
  rintro e w' ⟨rfl, o', h3, hk⟩
  obtain ⟨q1, q2, q3⟩ := h1.lo
  refine ⟨rfl, hk.below h.b h.b.size q1 (fun k e => (q3 k e).1), h.l1, h.n, (hk.block _ (Array.getElem?_eq_some_iff.1 h.r).1 h.n h2).trans h.r, o', h3, fun e => ?_⟩
  rcases hk.new _ e with e2 | e2
  · exact h2 e2
  · have := (Array.getElem?_eq_some_iff.1 h.r).1
    omega
theorem eb_take (es : List En.E) (k : Nat) (hk : k < es.length) : Mg.eb (es.take (k + 1)) = Mg.eb (es.take k) ++ row (En.enc es[k]) := by
  unfold Mg.eb
  rw [List.take_succ_eq_append_getElem hk, List.map_append, List.flatten_append, List.map_singleton, List.flatten_singleton]
theorem eb_take_len (es : List En.E) (k : Nat) : (Mg.eb (es.take k)).length ≤ (Mg.eb es).length := by
  have e : Mg.eb es = Mg.eb (es.take k) ++ Mg.eb (es.drop k) := by
    unfold Mg.eb
    rw [← List.flatten_append, ← List.map_append, List.take_append_drop]
  rw [e, List.length_append]; omega
theorem bc_u8 (n : Nat) (h : n < 256) : Value.int .u8 (n : Int) = .int .u8 ((Nm.b8 n).toNat : Int) := by rw [Nm.b8_toNat n h]
theorem wrap8 (n : Nat) (h : n < 256) : IntKind.u8.wrap (n : Int) = (n : Int) := by
  have e : IntKind.u8.wrap (n : Int) = (n : Int) % 256 := by simp [IntKind.wrap, IntKind.bits, IntKind.signed]
  rw [e]; omega
theorem ok_tru (b : Bool) : Mg.ok8 b = [Nm.b8 (tru b)] := by cases b <;> rfl
def Mg.l1 (m : Mg.M) : List UInt8 := Cm.one m.kind ++ (Cm.one m.frm ++ Cm.one m.tto)
def Mg.l2 (m : Mg.M) : List UInt8 := Mg.l1 m ++ Mg.g5 m
def Mg.l3 (m : Mg.M) : List UInt8 := Mg.l2 m ++ [Nm.b8 (tru m.ok), Nm.b8 m.mem, Nm.b8 m.sec, Nm.b8 m.ents.length]
theorem Mg.enc_l3 (m : Mg.M) : Mg.enc m = Mg.l3 m ++ Mg.eb m.ents ++ Cm.txt m.body := by
  unfold Mg.enc Mg.l3 Mg.l2 Mg.l1
  rw [ok_tru]
  simp [Cm.one]
theorem vs5 (m : Mg.M) : vs [m.trm, m.idx, m.ltm, m.com, m.rnd] = Mg.g5 m := by simp [vs, Mg.g5]
theorem tru_lt (b : Bool) : tru b < 256 := by cases b <;> decide
set_option maxRecDepth 100000 in
set_option maxHeartbeats 8000000 in
theorem mWrite_any (m : Mg.M) (hf : Mg.Fits m) (hb : m.body.size ≤ 1000000) (he : Mg.big m.ents ≤ 1000000) (hn : m.ents.length ≤ 1000000) (A : Option Addr) (cap : Nat) (w : World) (hA : Lies w A (ec m.ents)) :
    Calls Try.prog 37 #[.agg (msgC m A cap)] w (RetS (Mg.write m) w) := by
  have HR : Hid (∀ W, Below w.heap.size w W → Calls Try.prog 38 #[.agg (msgC m A cap)] W (RetTr (Mg.may m) W)) := Lib.hid fun W hb => mRight_any m A cap W (hA.below hb)
  unfold RetTr msgC at HR
  unfold RetS
  have HA := Lib.hid hA
  have F := msgF m A cap
  obtain ⟨X, hX⟩ : ∃ X, X = msgC m A cap := ⟨_, rfl⟩
  rw [← hX] at F ⊢
  have HX := Lib.hid hX
  obtain ⟨hx, _, x0, x1, x2, x3, x4, x5, x6, x7, x8, x9, x10, x11, x12⟩ := F
  clear hX hA
  rcases hm : Mg.may m with _ | _
  · have E : Hid (Mg.write m = []) := Lib.hid (by unfold Mg.write; rw [hm]; rfl)
    rw [hm] at HR
    clear hm hf hb he hn
    go_enter Try.func37, Try.ntmps37
    go_wp2_with fail
    refine (HR.out _ (bnew (Below.refl _ _) _)).mono ?_
    rintro r w1 ⟨rfl, hb1⟩
    go_wp2_with fail
    go_ret
    exact ⟨by rw [E.out]; rfl, bnext (bnew (Below.refl _ _) _) hb1⟩
  have hlen := Mg.may_len hm
  have hel := Mg.enc_len hf hb he
  have hall : ∀ e ∈ m.ents, En.may e = true := by
    have h := hm
    unfold Mg.may Mg.sent at h
    simp only [Bool.and_eq_true, decide_eq_true_eq, List.all_eq_true] at h
    exact h.2.2.2.2.2.2.2
  have E : Hid (Mg.write m = Mg.l3 m ++ Mg.eb m.ents ++ Cm.txt m.body) := Lib.hid (by unfold Mg.write; rw [hm, if_pos rfl, Mg.enc_l3])
  have hle : (Mg.l3 m ++ Mg.eb m.ents ++ Cm.txt m.body).length ≤ 3000000 := by rw [← Mg.enc_l3]; omega
  rw [List.length_append, List.length_append] at hle
  have hl2 : (Mg.l2 m).length ≤ (Mg.l3 m).length := by unfold Mg.l3; rw [List.length_append]; omega
  have hl1 : (Mg.l1 m).length ≤ (Mg.l2 m).length := by unfold Mg.l2; rw [List.length_append]; omega
  have Hsz := Lib.hid (And.intro hle (And.intro hl2 (And.intro hl1 (And.intro hlen (And.intro hb he)))))
  have Hall := Lib.hid hall
  have Hf := Lib.hid hf
  rw [hm] at HR
  have hV : ∀ (W : World) (B : Option Addr), Lies W B (uc [m.trm, m.idx, m.ltm, m.com, m.rnd]) → Calls Try.prog 76 #[.slice B 5 5] W fun r w' => r = .returned (.string ⟨(Mg.g5 m).toArray⟩) ∧ Below W.heap.size W w' := fun W B hB => by
    have := V_any [m.trm, m.idx, m.ltm, m.com, m.rnd] (fun n hn => by simp at hn; rcases hn with rfl | rfl | rfl | rfl | rfl; exact hf.trm; exact hf.idx; exact hf.ltm; exact hf.com; exact hf.rnd) B 5 W hB (by simp)
    unfold RetS at this
    rw [vs5] at this; exact this
  have HV := Lib.hid hV
  have hO1 : ∀ (W : World) (g : Nat), Calls Try.prog 75 #[.slice (some ⟨W.heap.size, 0, none⟩) 3 3] (W.alloc (.cells #[.int .u8 (m.kind : Int), .int .u8 (m.frm : Int), .int .u8 (m.tto : Int)] 5)) fun r w' => r = .returned (.string ⟨(Mg.l1 m).toArray⟩) ∧ W.alloc (.cells #[.int .u8 (m.kind : Int), .int .u8 (m.frm : Int), .int .u8 (m.tto : Int)] 5) = w' := fun W g => by
    refine octets_any (Mg.l1 m) _ 3 _ ?_ (by simp [Mg.l1, Cm.one]) rfl
    have := Lies.new W (bc (Mg.l1 m)) 5
    have e : (bc (Mg.l1 m)).toArray = #[.int .u8 (m.kind : Int), .int .u8 (m.frm : Int), .int .u8 (m.tto : Int)] := by
      simp [bc, Mg.l1, Cm.one, Nm.b8_toNat _ hf.kind, Nm.b8_toNat _ hf.frm, Nm.b8_toNat _ hf.tto]
    rw [e] at this; exact this
  have HO1 := Lib.hid hO1
  have hO3 : ∀ (W : World) (g : Nat), Calls Try.prog 75 #[.slice (some ⟨W.heap.size, 0, none⟩) 4 4] (W.alloc (.cells #[.int .u8 (tru m.ok : Int), .int .u8 (m.mem : Int), .int .u8 (m.sec : Int), .int .u8 (m.ents.length : Int)] 5)) fun r w' => r = .returned (.string ⟨#[Nm.b8 (tru m.ok), Nm.b8 m.mem, Nm.b8 m.sec, Nm.b8 m.ents.length]⟩) ∧ W.alloc (.cells #[.int .u8 (tru m.ok : Int), .int .u8 (m.mem : Int), .int .u8 (m.sec : Int), .int .u8 (m.ents.length : Int)] 5) = w' := fun W g => by
    refine octets_any [Nm.b8 (tru m.ok), Nm.b8 m.mem, Nm.b8 m.sec, Nm.b8 m.ents.length] _ 4 _ ?_ (by simp) rfl
    have := Lies.new W (bc [Nm.b8 (tru m.ok), Nm.b8 m.mem, Nm.b8 m.sec, Nm.b8 m.ents.length]) 5
    have e : (bc [Nm.b8 (tru m.ok), Nm.b8 m.mem, Nm.b8 m.sec, Nm.b8 m.ents.length]).toArray = #[.int .u8 (tru m.ok : Int), .int .u8 (m.mem : Int), .int .u8 (m.sec : Int), .int .u8 (m.ents.length : Int)] := by
      simp [bc, Nm.b8_toNat _ (tru_lt m.ok), Nm.b8_toNat _ hf.mem, Nm.b8_toNat _ hf.sec, Nm.b8_toNat m.ents.length (by omega)]
    rw [e] at this; exact this
  have HO3 := Lib.hid hO3
  have w8 := wrap8 m.ents.length (by omega)
  have HW8 := Lib.hid w8
  clear hm hf hb he hn hlen hel hall hle hl2 hl1 hV hO1 hO3 w8
  go_enter Try.func37, Try.ntmps37
  go_wp2_with fail
  refine (HR.out _ (bnew (Below.refl _ _) _)).mono ?_
  rintro r w1 ⟨rfl, hb1⟩
  go_upto_region 4 with (fail)
  refine forget (fun W => ∃ g3, g3 = w1.heap.size ∧ WSt w W w.heap.size g3 X []) ?_ ?_
  · have hr1 : w1.heap[w.heap.size]? = some (.cells X 63 (0, 0)) := (hb1.block _ (by simp)).trans (heap_alloc_new w _)
    have hlt := (Array.getElem?_eq_some_iff.1 hr1).1
    refine ⟨_, rfl, bnew (bnext (bnew (Below.refl _ _) _) hb1) _, Nat.le_refl _, by omega, (Below.heap_alloc _ _ _ hlt).trans hr1, none, ⟨.pointer none, .slice none 0 0, ⟨.inl rfl, heap_alloc_new w1 _, World.ownsRow_nil _ _ _ _, by omega⟩, rfl⟩, by simp⟩
  rintro W2 ⟨g3, hg3, H2⟩
  rw [← hg3]
  obtain ⟨g1, hg1⟩ : ∃ g, g = w.heap.size := ⟨_, rfl⟩
  rw [← hg1] at H2 ⊢
  have HH2 := Lib.hid H2
  have hrow := H2.r
  rw [HX.out] at hrow
  have c0 := (msgAt hrow).c0
  have c1 := (msgAt hrow).c1
  have c2 := (msgAt hrow).c2
  clear hrow H2 hg1 hg3 hb1 x0 x1 x2 x3 x4 x5 x6 x7 x8 x9 x10 x11 x12
  go_wp2_with fail
  refine (HO1.out W2 0).mono ?_
  rintro r W3 ⟨rfl, rfl⟩
  have hS3 := (HH2.out.grow (bnew (Below.refl _ _) (.cells #[.int .u8 (m.kind : Int), .int .u8 (m.frm : Int), .int .u8 (m.tto : Int)] 5))).str ⟨(Mg.l1 m).toArray⟩ (by simp) (by rw [Mg.size_mk]; have := Hsz.out; omega)
  have HS3 := Lib.hid hS3
  clear hS3 c0 c1 c2
  go_wp2_with fail
  refine HS3.out.mono ?_
  rintro r W4 ⟨rfl, H4⟩
  have HH4 : Hid (WSt w W4 g1 g3 X (Mg.l1 m)) := Lib.hid H4
  have hrow := H4.r
  rw [HX.out] at hrow
  have c3 := (msgAt hrow).c3
  have c4 := (msgAt hrow).c4
  have c5 := (msgAt hrow).c5
  have c6 := (msgAt hrow).c6
  have c7 := (msgAt hrow).c7
  clear hrow H4 HH2 HS3
  go_wp2_with fail
  refine (HV.out _ _ (Lies.at_ W4 (uc [m.trm, m.idx, m.ltm, m.com, m.rnd]) _ _ rfl)).mono ?_
  rintro r W5 ⟨rfl, hb5⟩
  have hS5 := ((HH4.out.grow (bnew (Below.refl _ _) _)).grow hb5).str ⟨(Mg.g5 m).toArray⟩ (by have := Hsz.out; omega) (by rw [Mg.size_mk]; have := Hsz.out; unfold Mg.l2 at this; rw [List.length_append] at this; omega)
  have HS5 := Lib.hid hS5
  clear hS5 c3 c4 c5 c6 c7 hb5
  go_wp2_with fail
  refine HS5.out.mono ?_
  rintro r W6 ⟨rfl, H6⟩
  have HH6 : Hid (WSt w W6 g1 g3 X (Mg.l2 m)) := Lib.hid H6
  clear H6 HH4 HS5
  go_upto_region 6 with (fail)
  refine forget (fun W => WSt w W g1 g3 X (Mg.l2 m)) HH6.out ?_
  intro W7 H7
  refine wp_region_still_tail 11 (by kernel_rfl) (by kernel_rfl) ?_
  change wpStill _ _ W7.drew (fun a' => wpList _ _ _ _ a' W7.drew) _ _
  have H8 := H7.drew
  generalize W7.drew = W8 at *
  have HH8 := Lib.hid H8
  have hrow := H8.r
  rw [HX.out] at hrow
  have c8 := (msgAt hrow).c8
  have c9 := (msgAt hrow).c9
  have c10 := (msgAt hrow).c10
  have c11 := (msgAt hrow).c11
  have hw8 := HW8.out
  have htru := truthv_any m.ok W8
  clear hrow H8 H7 HH6 W6
  simp only [List.take_succ_cons, List.take_zero, List.drop_succ_cons, List.drop_zero]
  still_step
  still_step
  still_call htru
  repeat still_step
  refine wpStill_nil ?_
  clear c8 c9 c10 c11 htru hw8
  go_wp2_with fail
  refine (HO3.out W8 0).mono ?_
  rintro r W9 ⟨rfl, rfl⟩
  have hS9 := (HH8.out.grow (bnew (Below.refl _ _) (.cells #[.int .u8 (tru m.ok : Int), .int .u8 (m.mem : Int), .int .u8 (m.sec : Int), .int .u8 (m.ents.length : Int)] 5))).str ⟨#[Nm.b8 (tru m.ok), Nm.b8 m.mem, Nm.b8 m.sec, Nm.b8 m.ents.length]⟩ (by have := Hsz.out; omega) (by rw [Lib.size_eq]; simp)
  have HS9 := Lib.hid hS9
  clear hS9
  go_wp2_with fail
  refine HS9.out.mono ?_
  rintro r W10 ⟨rfl, H10⟩
  have HH10 : Hid (WSt w W10 g1 g3 X (Mg.l3 m)) := Lib.hid H10
  clear H10 HH8 HS9
  go_upto_region 7 with (fail)
  refine forget (fun W => WSt w W g1 g3 X (Mg.l3 m)) HH10.out ?_
  intro W11 H11
  have HH11 := Lib.hid H11
  have hrow := H11.r
  rw [HX.out] at hrow
  have c11 := (msgAt hrow).c11
  clear hrow H11 HH10 HO1 HO3 HV HR
  go_wp2_with fail
  clear c11
  go_loopw [48] (fun i wr => ∃ k : Nat, k ≤ m.ents.length ∧ i = .int .i64 (k : Int) ∧ WSt w wr g1 g3 X (Mg.l3 m ++ Mg.eb (m.ents.take k))) (fun i _ => m.ents.length - (intOf i).toNat)
  case atStart => exact ⟨0, Nat.zero_le _, rfl, by simpa [Mg.eb] using HH11.out⟩
  case round =>
    obtain ⟨k, hk, rfl, hS⟩ := hrel
    have HS := Lib.hid hS
    have hln := Hsz.out.2.2.2.1
    clear hS
    by_cases hlt : k < m.ents.length
    · obtain ⟨b, off, rfl, hE⟩ := HA.out.ent k hlt
      have hE := hE.bel HS.out.b
      obtain ⟨e, he⟩ : ∃ e, e = m.ents[k] := ⟨_, rfl⟩
      have hmem : e ∈ m.ents := by rw [he]; exact List.getElem_mem hlt
      have hst := eb_take m.ents k hlt
      rw [← he] at hE hst
      have hz := Mg.big_mem _ _ hmem
      have hbz := Hsz.out.2.2.2.2.2
      have hwr := fun W => write_any e (Hf.out.ents e hmem) (by omega) W
      have hwe : En.write e = En.enc e := by unfold En.write; rw [Hall.out e hmem, if_pos rfl]
      unfold RetS entC at hwr
      rw [hwe] at hwr
      have hrl : (row (En.enc e)).length ≤ (Mg.eb m.ents).length := by
        have h1 := eb_take_len m.ents (k + 1)
        rw [hst, List.length_append] at h1
        omega
      have hSn : ∀ (W : World) (B : Option Addr), Lies W B (sc [⟨(En.enc e).toArray⟩]) → Calls Try.prog 78 #[.slice B 1 1] W fun r w' => r = .returned (.string ⟨(row (En.enc e)).toArray⟩) ∧ Below W.heap.size W w' := fun W B hB => by
        have hsr : sr [(⟨(En.enc e).toArray⟩ : ByteArray)] = row (En.enc e) := by simp [sr]
        have := S_any [(⟨(En.enc e).toArray⟩ : ByteArray)] B 1 W hB (by simp) (by rw [hsr]; have := Hsz.out.1; omega)
        unfold RetS at this
        rw [hsr] at this; exact this
      have HWr := Lib.hid hwr
      have HSn := Lib.hid hSn
      have Hst := Lib.hid hst
      have Hrl := Lib.hid hrl
      have hps := storeEnt (entC e) rfl (entF e).one
      unfold entC at hps
      obtain ⟨_, q0, q1, q2, q3, q4, q5, q6, q7, q8, q9, q10, q11, q12⟩ := hE
      clear hmem hst he hz hbz hwr hwe hrl hSn
      go_wp2_with fail
      refine (HWr.out _).mono ?_
      rintro r W12 ⟨rfl, hb12⟩
      have H12 := Lib.hid ((HS.out.grow (bnew (Below.refl _ _) _)).grow hb12)
      clear hb12 q0 q1 q2 q3 q4 q5 q6 q7 q8 q9 q10 q11 q12 hps
      go_wp2_with fail
      refine (HSn.out _ _ (Lies.at_ W12 (sc [⟨(En.enc e).toArray⟩]) _ _ rfl)).mono ?_
      rintro r W13 ⟨rfl, hb13⟩
      have hS13 := ((H12.out.grow (bnew (Below.refl _ _) _)).grow hb13).str ⟨(row (En.enc e)).toArray⟩ (by
        have h1 := Hsz.out.1
        have h2 := eb_take_len m.ents k
        rw [List.length_append]; omega) (by rw [Mg.size_mk]; have := Hsz.out.1; have := Hrl.out; omega)
      have HS13 := Lib.hid hS13
      clear hS13 hb13
      go_wp2_with fail
      refine HS13.out.mono ?_
      rintro r W14 ⟨rfl, H14⟩
      have HH14 := Lib.hid H14
      clear H14
      go_wp2_with fail
      go_roundw
      case rel => exact ⟨k + 1, by omega, by go_num, by rw [Hst.out, ← List.append_assoc]; exact HH14.out⟩
      case measure => simp [intOf]; omega
    · obtain rfl : k = m.ents.length := by omega
      have hS := HS.out
      rw [List.take_length] at hS
      have HSl := Lib.hid hS
      have hrow := hS.r
      rw [HX.out] at hrow
      have c12 := (msgAt hrow).c12
      have hSn : ∀ (W : World) (B : Option Addr), Lies W B (sc [m.body]) → Calls Try.prog 78 #[.slice B 1 1] W fun r w' => r = .returned (.string ⟨(Cm.txt m.body).toArray⟩) ∧ Below W.heap.size W w' := fun W B hB => by
        have hsr : sr [m.body] = Cm.txt m.body := by simp [sr, Cm.txt]
        have := S_any [m.body] B 1 W hB (by simp) (by rw [hsr]; have := Hsz.out.1; omega)
        unfold RetS at this
        rw [hsr] at this; exact this
      have HSn := Lib.hid hSn
      clear hS hrow hSn
      go_wp2_with fail
      refine (HSn.out _ _ (Lies.at_ wr (sc [m.body]) _ _ rfl)).mono ?_
      rintro r W12 ⟨rfl, hb12⟩
      have hS12 := ((HSl.out.grow (bnew (Below.refl _ _) _)).grow hb12).str ⟨(Cm.txt m.body).toArray⟩ (by rw [List.length_append]; have := Hsz.out.1; omega) (by rw [Mg.size_mk]; have := Hsz.out.1; omega)
      have HS12 := Lib.hid hS12
      clear hS12 hb12 c12
      go_wp2_with fail
      refine HS12.out.mono ?_
      rintro r W13 ⟨rfl, H13⟩
      have hfin : ∃ o, SbAt w.heap.size W13 g3 o (Mg.write m) ∧ Below w.heap.size w W13 := by
        obtain ⟨o, h1, _⟩ := H13.s
        exact ⟨o, by rw [E.out]; exact h1, H13.b⟩
      obtain ⟨o, h1, h2⟩ := hfin
      have hSt := sbString_any w.heap.size W13 g3 o (Mg.write m) h1 (by rw [E.out]; simp [Mg.l3])
      have HSt := Lib.hid (And.intro hSt h2)
      clear hSt h1 h2 H13
      go_wp2_with fail
      refine HSt.out.1.mono ?_
      rintro r W14 ⟨rfl, hb14⟩
      go_wp2_with fail
      go_ret
      exact ⟨rfl, HSt.out.2.trans hb14⟩
end Go.Proofs.Ytpdahbfjbgcmgaa
