/-
  LogsKnown walked.
-/
import Derived.Test.YtahkkdnmmneehaaLLgOwnL
set_option linter.unusedSimpArgs false
set_option linter.unusedVariables false
namespace Go.Proofs.Ytahkkdnmmneehaa
open Go.RowKit Go.Sort
/-- A call that only reads such a log. -/
theorem rd {w W : World} {p : Nat} {l : Lg.L} (h : NewI w W p l) {f : Nat} {args : Array Value} {v : Value} (hc : ∀ S, LgAt W p S l → Calls Try.prog f args W (RetL v W)) : Calls Try.prog f args W fun r w' => r = .returned v ∧ NewI w w' p l := by
  have h' := h
  obtain ⟨⟨S, h1, h2⟩, h3⟩ := h
  exact (hc S h1).mono fun r w' hr => ⟨hr.1, h'.bel hr.2⟩
theorem LgAt.low {W : World} {p : Nat} {S : Nat → Prop} {l : Lg.L} (h : LgAt W p S l) : ∀ e ∈ l.es, e.idx < Nm.top := fun e he => (h.fit.es e he).1.idx
/-- What Put tells. -/
def PutI (w : World) (p : Nat) (l : Lg.L) (i : Nat) (es : List En.E) (b : Bool) (r : Ending) (w' : World) : Prop :=
  if b = true then ∃ A c, r = .returned (.tuple #[.bool true, .int .u64 ((i + es.length : Nat) : Int), .slice A (Lg.lacking l es).length c]) ∧ NewI w w' p (Lg.put l es)
  else r = .returned (.tuple #[.bool false, .int .u64 0, .slice none 0 0]) ∧ NewI w w' p l
theorem put_fresh {w W : World} {p : Nat} {l : Lg.L} (h : NewI w W p l) (i t : Nat) (hi : i < 1000) (ht : t < 1000) (es : List En.E) (hf : ∀ e ∈ es, En.Fits e ∧ e.body.size ≤ 1000) (hm : es.length ≤ 10) (hl : l.es.length ≤ 10) :
    Calls Try.prog 20 #[.pointer (some ⟨p, 0, none⟩), .int .u64 (i : Int), .int .u64 (t : Int), .slice (some ⟨W.heap.size, 0, none⟩) es.length es.length] (W.alloc (.cells (ec es).toArray 62)) (PutI w p l i es (Lg.puts l i t es)) := by
  have hb2 : Below W.heap.size W (W.alloc (.cells (ec es).toArray 62)) := bnew (Below.refl _ _) _
  have hz := (h.z hb2).sub (Y := fun k => k = W.heap.size) fun k hk => by rw [hk]; exact Nat.le_refl _
  refine (put_newZ hz (fun k hk => by rw [World.size_alloc, hk]; omega) i t (by unfold Nm.top; omega) (by unfold Nm.top; omega) (some ⟨W.heap.size, 0, none⟩) es.length es (Lies.new W (ec es) _) (fun h => by cases h) (Nat.le_refl _) (fun b hb => (Option.some.inj hb).symm) hf (by omega) (by omega)).mono fun r w' hr => ?_
  unfold PutZ at hr
  unfold PutI
  by_cases hp : Lg.puts l i t es = true
  · rw [if_pos hp] at hr ⊢
    obtain ⟨A, c, r1, _, _, r4, _⟩ := hr
    exact ⟨A, c, r1, r4.i⟩
  · rw [if_neg hp] at hr ⊢
    exact ⟨hr.1, hr.2.1.i⟩
theorem put_none {w W : World} {p : Nat} {l : Lg.L} (h : NewI w W p l) (i t : Nat) (hi : i < 1000) (ht : t < 1000) (hl : l.es.length ≤ 10) :
    Calls Try.prog 20 #[.pointer (some ⟨p, 0, none⟩), .int .u64 (i : Int), .int .u64 (t : Int), .slice none 0 0] W (PutI w p l i [] (Lg.puts l i t [])) := by
  have hz := (h.z (Below.refl _ _)).sub (Y := fun _ => False) fun k hk => hk.elim
  refine (put_newZ hz (fun k hk => hk.elim) i t (by unfold Nm.top; omega) (by unfold Nm.top; omega) none 0 [] (.inl rfl) (fun _ => rfl) (Nat.le_refl _) (fun b hb => by cases hb) (fun e he => by cases he) (by simp) (by simp; omega)).mono fun r w' hr => ?_
  unfold PutZ at hr
  unfold PutI
  by_cases hp : Lg.puts l i t [] = true
  · rw [if_pos hp] at hr ⊢
    obtain ⟨A, c, r1, _, _, r4, _⟩ := hr
    exact ⟨A, c, r1, r4.i⟩
  · rw [if_neg hp] at hr ⊢
    exact ⟨hr.1, hr.2.1.i⟩
theorem cut_n {w W : World} {p : Nat} {l : Lg.L} (h : NewI w W p l) (i : Nat) (hi : i < Nm.top) :
    Calls Try.prog 30 #[.pointer (some ⟨p, 0, none⟩), .int .u64 (i : Int)] W fun r w' => r = .returned (.int .i64 ((Lg.cut l i).1 : Nat)) ∧ NewI w w' p (Lg.cut l i).2 := by
  obtain ⟨⟨S, h1, h2⟩, h3⟩ := h
  exact (cut_any W h1 i hi).mono fun r w' ⟨a, b, c⟩ => ⟨a, ⟨S, b, h2⟩, c.below h3 h2⟩
theorem from_n {w W : World} {p : Nat} {l : Lg.L} (h : NewI w W p l) (i m : Nat) (hi : i < Nm.top) (hm : m < 9223372036854775808) :
    Calls Try.prog 25 #[.pointer (some ⟨p, 0, none⟩), .int .u64 (i : Int), .int .i64 (m : Int)] W fun r w' => ∃ A c, r = .returned (.slice A (Lg.frm l i m).length c) ∧ Lies w' A (ec (Lg.frm l i m)) ∧ NewI w w' p l := by
  have h' := h
  obtain ⟨⟨S, h1, h2⟩, h3⟩ := h
  refine (from_any W h1 i m hi hm).mono fun r w' hr => ?_
  obtain ⟨A, c, r1, r2, _, _, r5⟩ := hr.lies
  exact ⟨A, c, r1, r2, h'.bel r5⟩
namespace Lg
def e4 : En.E := { En.zero with trm := 5, kind := 2, body := ⟨#[3]⟩ }
def k1 : L := ⟨0, 0, 7, [one 1 1]⟩
def k2 : L := ⟨0, 0, 7, [one 1 1, one 2 1, one 3 2]⟩
def k3 : L := ⟨0, 0, 7, [one 1 1, one 2 1, one 3 3]⟩
def k4 : L := ⟨2, 1, 7, [one 3 3]⟩
def k5 : L := ⟨2, 1, 7, [one 3 3, { e4 with idx := 4 }]⟩
end Lg
theorem ones_fit : ∀ e ∈ [Lg.one 1 1, Lg.one 2 1, Lg.one 3 2, Lg.one 3 3, Lg.one 3 1], En.Fits e ∧ e.body.size ≤ 1000 := by
  intro e he
  simp only [List.mem_cons, List.not_mem_nil, or_false] at he
  rcases he with rfl | rfl | rfl | rfl | rfl <;> exact one_fits _ _ (by decide) (by decide)
theorem bad_new (t : Nat) (ht : t < 1000) (gs : List Vs) (W : World) (hg : ∀ g ∈ gs, ∃ x ∈ [Lg.one 1 1, Lg.one 3 1], g.es = [x] ∧ g.cp = 1 ∧ Lies W g.A (ec [x]) ∧ g.A ≠ none) (hn : gs.length ≤ 2) (hf : Lg.fit 0 t (vse gs) = false) :
    Calls Try.prog 13 #[.int .u64 0, .int .u64 (t : Int), .int .u8 7, .slice (some ⟨W.heap.size, 0, none⟩) gs.length gs.length] (W.alloc (.cells (vsc gs).toArray 23)) fun r w' => r = .returned (.tuple #[.pointer none, .int .i64 1]) ∧ Below W.heap.size W w' := by
  have hb := bnew (Below.refl W.heap.size W) (.cells (vsc gs).toArray 23)
  have hlen : (vse gs).length ≤ 1000 := by
    have : ∀ (xs : List Vs), (∀ g ∈ xs, g.es.length = 1) → (vse xs).length = xs.length := by
      intro xs
      induction xs with
      | nil => intro _; rfl
      | cons a xs ih =>
        intro h
        have e : vse (a :: xs) = a.es ++ vse xs := rfl
        rw [e, List.length_append, ih (fun g hg => h g (List.mem_cons_of_mem _ hg)), h a (List.mem_cons_self ..)]
        simp; omega
    rw [this gs fun g h => by obtain ⟨x, _, e, _⟩ := hg g h; rw [e]; rfl]; omega
  have := new_any (W.alloc (.cells (vsc gs).toArray 23)) 0 t 7 (by unfold Nm.top; omega) (by unfold Nm.top; omega) (by decide) (some ⟨W.heap.size, 0, none⟩) gs.length gs (Lies.new W (vsc gs) _) (fun g h => by
    obtain ⟨x, hx, e1, e2, e3, e4⟩ := hg g h
    refine ⟨by rw [e1]; exact e3.below hb, fun h => absurd h e4, by rw [e1, e2]; exact Nat.le_refl _, fun e he => ?_, by rw [e1]; show 1 ≤ 1000; omega⟩
    rw [e1] at he
    rw [List.mem_singleton.1 he]
    refine ones_fit x ?_
    simp only [List.mem_cons, List.not_mem_nil, or_false] at hx ⊢
    rcases hx with rfl | rfl <;> simp) (by omega) hlen
  refine this.mono fun r w' h => ?_
  unfold RetNew at h
  rw [if_neg (by rw [hf]; simp)] at h
  exact ⟨h.1, hb.trans (h.2.mono (by rw [World.size_alloc]; omega))⟩
set_option maxRecDepth 100000 in
set_option maxHeartbeats 100000000 in
theorem logsKnown_walk (w : World) : Calls Try.prog 5 #[] w fun e w' => e = .returned (.bool true) ∧ Below w.heap.size w w' := by
  have HAw := Lib.hid awake_any
  have HNw : Hid (Calls Try.prog 13 #[.int .u64 0, .int .u64 0, .int .u8 7, .slice none 0 0] w fun e w' => ∃ p, e = .returned (.tuple #[.pointer (some ⟨p, 0, none⟩), .int .i64 0]) ∧ NewI w w' p ⟨0, 0, 7, []⟩) :=
    Lib.hid (new_nil w 0 0 7 (by decide) (by decide) (by decide))
  have HOn : Hid (∀ W (i t : Nat), Calls Try.prog 29 #[.int .u64 (i : Int), .int .u64 (t : Int)] W fun r w' => r = .returned (.agg #[.int .u64 (i : Int), .int .u64 (t : Int), .int .u8 1, .int .u8 0, .int .u8 0, .int .u8 0, .int .u8 0, .int .u8 0, .int .u8 0, .int .u8 0, .int .u8 0, .int .u8 0, .string ⟨#[]⟩]) ∧ Below W.heap.size W w') := Lib.hid fun W i t => one_any W i t
  have H21 := Lib.hid fun W => HOn.out W 2 1
  have H32 := Lib.hid fun W => HOn.out W 3 2
  have H33 := Lib.hid fun W => HOn.out W 3 3
  have H11 := Lib.hid fun W => HOn.out W 1 1
  have H31 := Lib.hid fun W => HOn.out W 3 1
  have HZ := sizeEntL { Lg.e4 with idx := 4 }
  have HO := (entF { Lg.e4 with idx := 4 }).one
  obtain ⟨X, hX⟩ : ∃ X, X = entC { Lg.e4 with idx := 4 } := ⟨_, rfl⟩
  have HX := Lib.hid hX
  rw [← hX] at HZ HO
  have hXs : X.size = 13 := by rw [hX]; rfl

  have C1 : Hid (∀ W p, NewI w W p ⟨0, 0, 7, []⟩ → Calls Try.prog 28 #[.pointer (some ⟨p, 0, none⟩), .agg #[.int .u64 9, .int .u64 1, .int .u8 1, .int .u8 0, .int .u8 0, .int .u8 0, .int .u8 0, .int .u8 0, .int .u8 0, .int .u8 0, .int .u8 0, .int .u8 0, .string ⟨#[]⟩]] W fun r w' => r = .returned (.agg (entC (Lg.one 1 1))) ∧ NewI w w' p Lg.k1) :=
    Lib.hid fun W p h => add_newI h { En.zero with idx := 9, trm := 1, kind := 1 } ⟨⟨by decide, by decide, by decide, by decide⟩, by decide⟩ (by decide) (by decide)
  have C2 : Hid (∀ W p, NewI w W p Lg.k1 → Calls Try.prog 22 #[.pointer (some ⟨p, 0, none⟩)] W fun r w' => r = .returned (.tuple #[.int .u64 1, .int .u64 1]) ∧ NewI w w' p Lg.k1) := Lib.hid fun W p h => rd h fun S hs => last_any W hs
  have C3 : Hid (∀ W p, NewI w W p Lg.k1 → Calls Try.prog 23 #[.pointer (some ⟨p, 0, none⟩)] W fun r w' => r = .returned (.tuple #[.int .u8 7, .int .u64 0]) ∧ NewI w w' p Lg.k1) := Lib.hid fun W p h => rd h fun S hs => members_any W hs
  have C4 : Hid (∀ W p, NewI w W p Lg.k1 → Calls Try.prog 24 #[.pointer (some ⟨p, 0, none⟩), .int .u64 0] W fun r w' => r = .returned (.tuple #[.int .u64 0, .bool true]) ∧ NewI w w' p Lg.k1) := Lib.hid fun W p h => rd h fun S hs => term_any W hs 0 (by decide) hs.low
  have C5 : Hid (∀ W p, NewI w W p Lg.k1 → Calls Try.prog 24 #[.pointer (some ⟨p, 0, none⟩), .int .u64 2] W fun r w' => r = .returned (.tuple #[.int .u64 0, .bool false]) ∧ NewI w w' p Lg.k1) := Lib.hid fun W p h => rd h fun S hs => term_any W hs 2 (by decide) hs.low
  have C6 : Hid (∀ W p, NewI w W p Lg.k1 → Calls Try.prog 20 #[.pointer (some ⟨p, 0, none⟩), .int .u64 1, .int .u64 1, .slice (some ⟨W.heap.size, 0, none⟩) 2 2] (W.alloc (.cells (ec [Lg.one 2 1, Lg.one 3 2]).toArray 62)) fun r w' => ∃ A c, r = .returned (.tuple #[.bool true, .int .u64 3, .slice A 2 c]) ∧ NewI w w' p Lg.k2) := Lib.hid fun W p h => by
    have hp : Lg.puts Lg.k1 1 1 [Lg.one 2 1, Lg.one 3 2] = true := by decide
    have := put_fresh h 1 1 (by decide) (by decide) [Lg.one 2 1, Lg.one 3 2] (fun e he => ones_fit e ((show ∀ x ∈ [Lg.one 2 1, Lg.one 3 2], x ∈ [Lg.one 1 1, Lg.one 2 1, Lg.one 3 2, Lg.one 3 3, Lg.one 3 1] by simp) e he)) (by decide) (by decide)
    rw [hp] at this
    exact this
  have C7 : Hid (∀ W p, NewI w W p Lg.k2 → Calls Try.prog 20 #[.pointer (some ⟨p, 0, none⟩), .int .u64 2, .int .u64 1, .slice (some ⟨W.heap.size, 0, none⟩) 1 1] (W.alloc (.cells (ec [Lg.one 3 3]).toArray 62)) fun r w' => ∃ A c, r = .returned (.tuple #[.bool true, .int .u64 3, .slice A 1 c]) ∧ NewI w w' p Lg.k3) := Lib.hid fun W p h => by
    have hp : Lg.puts Lg.k2 2 1 [Lg.one 3 3] = true := by decide
    have := put_fresh h 2 1 (by decide) (by decide) [Lg.one 3 3] (fun e he => ones_fit e ((show ∀ x ∈ [Lg.one 3 3], x ∈ [Lg.one 1 1, Lg.one 2 1, Lg.one 3 2, Lg.one 3 3, Lg.one 3 1] by simp) e he)) (by decide) (by decide)
    rw [hp] at this
    exact this
  have C8 : Hid (∀ W p, NewI w W p Lg.k3 → Calls Try.prog 25 #[.pointer (some ⟨p, 0, none⟩), .int .u64 2, .int .i64 9] W fun r w' => ∃ A c, r = .returned (.slice A 2 c) ∧ Lies w' A (ec [Lg.one 2 1, Lg.one 3 3]) ∧ NewI w w' p Lg.k3) := Lib.hid fun W p h => from_n h 2 9 (by decide) (by decide)
  have C9 : Hid (∀ W A c, Lies W A (ec [Lg.one 2 1, Lg.one 3 3]) → Calls Try.prog 17 #[.slice A 2 c, .slice (some ⟨W.heap.size, 0, none⟩) 2 2] (W.alloc (.cells (ec [Lg.one 2 1, Lg.one 3 3]).toArray 62)) fun r w' => r = .returned (.bool true) ∧ Below W.heap.size W w') := Lib.hid fun W A c h => by
    have hb := bnew (Below.refl W.heap.size W) (.cells (ec [Lg.one 2 1, Lg.one 3 3]).toArray 62)
    refine (same_any _ A _ c 2 [Lg.one 2 1, Lg.one 3 3] [Lg.one 2 1, Lg.one 3 3] (h.below hb) (Lies.new W (ec [Lg.one 2 1, Lg.one 3 3]) _) (by decide) (by decide)).mono fun r w' hr => ?_
    rw [decide_eq_true rfl] at hr
    exact ⟨hr.1, hb.trans (hr.2.mono (by rw [World.size_alloc]; omega))⟩
  have C10 : Hid (∀ W p, NewI w W p Lg.k3 → Calls Try.prog 27 #[.pointer (some ⟨p, 0, none⟩), .int .u64 9, .int .u64 2] W fun r w' => r = .returned (.bool false) ∧ NewI w w' p Lg.k3) := Lib.hid fun W p h => rd h fun S hs => asNew_any W hs 9 2
  have C11 : Hid (∀ W p, NewI w W p Lg.k3 → Calls Try.prog 27 #[.pointer (some ⟨p, 0, none⟩), .int .u64 3, .int .u64 3] W fun r w' => r = .returned (.bool true) ∧ NewI w w' p Lg.k3) := Lib.hid fun W p h => rd h fun S hs => asNew_any W hs 3 3
  have C12 : Hid (∀ W p, NewI w W p Lg.k3 → Calls Try.prog 27 #[.pointer (some ⟨p, 0, none⟩), .int .u64 2, .int .u64 3] W fun r w' => r = .returned (.bool false) ∧ NewI w w' p Lg.k3) := Lib.hid fun W p h => rd h fun S hs => asNew_any W hs 2 3
  have C13 : Hid (∀ W p, NewI w W p Lg.k3 → Calls Try.prog 20 #[.pointer (some ⟨p, 0, none⟩), .int .u64 5, .int .u64 3, .slice none 0 0] W fun r w' => r = .returned (.tuple #[.bool false, .int .u64 0, .slice none 0 0]) ∧ NewI w w' p Lg.k3) := Lib.hid fun W p h => by
    have hp : Lg.puts Lg.k3 5 3 [] = false := by decide
    have := put_none h 5 3 (by decide) (by decide) (by decide)
    rw [hp] at this
    exact this
  have C14 : Hid (∀ W p, NewI w W p Lg.k3 → Calls Try.prog 20 #[.pointer (some ⟨p, 0, none⟩), .int .u64 2, .int .u64 2, .slice none 0 0] W fun r w' => r = .returned (.tuple #[.bool false, .int .u64 0, .slice none 0 0]) ∧ NewI w w' p Lg.k3) := Lib.hid fun W p h => by
    have hp : Lg.puts Lg.k3 2 2 [] = false := by decide
    have := put_none h 2 2 (by decide) (by decide) (by decide)
    rw [hp] at this
    exact this
  have C15 : Hid (∀ W p, NewI w W p Lg.k3 → Calls Try.prog 20 #[.pointer (some ⟨p, 0, none⟩), .int .u64 0, .int .u64 0, .slice (some ⟨W.heap.size, 0, none⟩) 1 1] (W.alloc (.cells (ec [Lg.one 1 1]).toArray 62)) fun r w' => ∃ A c, r = .returned (.tuple #[.bool true, .int .u64 1, .slice A 0 c]) ∧ NewI w w' p Lg.k3) := Lib.hid fun W p h => by
    have hp : Lg.puts Lg.k3 0 0 [Lg.one 1 1] = true := by decide
    have := put_fresh h 0 0 (by decide) (by decide) [Lg.one 1 1] (fun e he => ones_fit e ((show ∀ x ∈ [Lg.one 1 1], x ∈ [Lg.one 1 1, Lg.one 2 1, Lg.one 3 2, Lg.one 3 3, Lg.one 3 1] by simp) e he)) (by decide) (by decide)
    rw [hp] at this
    exact this
  have C16 : Hid (∀ W p, NewI w W p Lg.k3 → Calls Try.prog 30 #[.pointer (some ⟨p, 0, none⟩), .int .u64 2] W fun r w' => r = .returned (.int .i64 0) ∧ NewI w w' p Lg.k4) := Lib.hid fun W p h => cut_n h 2 (by decide)
  have C17 : Hid (∀ W p, NewI w W p Lg.k4 → Calls Try.prog 21 #[.pointer (some ⟨p, 0, none⟩)] W fun r w' => r = .returned (.tuple #[.int .u64 2, .int .u64 1]) ∧ NewI w w' p Lg.k4) := Lib.hid fun W p h => rd h fun S hs => first_any W hs
  have C18 : Hid (∀ W p, NewI w W p Lg.k4 → Calls Try.prog 24 #[.pointer (some ⟨p, 0, none⟩), .int .u64 1] W fun r w' => r = .returned (.tuple #[.int .u64 0, .bool false]) ∧ NewI w w' p Lg.k4) := Lib.hid fun W p h => rd h fun S hs => term_any W hs 1 (by decide) hs.low
  have C19 : Hid (∀ W p, NewI w W p Lg.k4 → Calls Try.prog 20 #[.pointer (some ⟨p, 0, none⟩), .int .u64 0, .int .u64 0, .slice (some ⟨W.heap.size, 0, none⟩) 3 3] (W.alloc (.cells (ec [Lg.one 1 1, Lg.one 2 1, Lg.one 3 3]).toArray 62)) fun r w' => ∃ A c, r = .returned (.tuple #[.bool true, .int .u64 3, .slice A 0 c]) ∧ NewI w w' p Lg.k4) := Lib.hid fun W p h => by
    have hp : Lg.puts Lg.k4 0 0 [Lg.one 1 1, Lg.one 2 1, Lg.one 3 3] = true := by decide
    have := put_fresh h 0 0 (by decide) (by decide) [Lg.one 1 1, Lg.one 2 1, Lg.one 3 3] (fun e he => ones_fit e ((show ∀ x ∈ [Lg.one 1 1, Lg.one 2 1, Lg.one 3 3], x ∈ [Lg.one 1 1, Lg.one 2 1, Lg.one 3 2, Lg.one 3 3, Lg.one 3 1] by simp) e he)) (by decide) (by decide)
    rw [hp] at this
    exact this
  have C20 : Hid (∀ W p, NewI w W p Lg.k4 → Calls Try.prog 20 #[.pointer (some ⟨p, 0, none⟩), .int .u64 0, .int .u64 0, .slice (some ⟨W.heap.size, 0, none⟩) 1 1] (W.alloc (.cells (ec [Lg.one 1 1]).toArray 62)) fun r w' => r = .returned (.tuple #[.bool false, .int .u64 0, .slice none 0 0]) ∧ NewI w w' p Lg.k4) := Lib.hid fun W p h => by
    have hp : Lg.puts Lg.k4 0 0 [Lg.one 1 1] = false := by decide
    have := put_fresh h 0 0 (by decide) (by decide) [Lg.one 1 1] (fun e he => ones_fit e ((show ∀ x ∈ [Lg.one 1 1], x ∈ [Lg.one 1 1, Lg.one 2 1, Lg.one 3 2, Lg.one 3 3, Lg.one 3 1] by simp) e he)) (by decide) (by decide)
    rw [hp] at this
    exact this
  have C21 : Hid (∀ W p, NewI w W p Lg.k4 → Calls Try.prog 28 #[.pointer (some ⟨p, 0, none⟩), .agg #[.int .u64 0, .int .u64 5, .int .u8 2, .int .u8 0, .int .u8 0, .int .u8 0, .int .u8 0, .int .u8 0, .int .u8 0, .int .u8 0, .int .u8 0, .int .u8 0, .string ⟨#[3]⟩]] W fun r w' => r = .returned (.agg X) ∧ NewI w w' p Lg.k5) :=
    Lib.hid fun W p h => by
    have := add_newI h Lg.e4 ⟨⟨by decide, by decide, by decide, by decide⟩, by decide⟩ (by decide) (by decide)
    have e : Lg.next Lg.k4 Lg.e4 = { Lg.e4 with idx := 4 } := by decide
    rw [hX, ← e]
    exact this
  have C22 : Hid (∀ W p, NewI w W p Lg.k5 → Calls Try.prog 23 #[.pointer (some ⟨p, 0, none⟩)] W fun r w' => r = .returned (.tuple #[.int .u8 3, .int .u64 4]) ∧ NewI w w' p Lg.k5) := Lib.hid fun W p h => rd h fun S hs => members_any W hs
  have C23 : Hid (∀ (W : World) (B1 B2 n : Nat), n = W.heap.size → Lies W (some ⟨B1, 0, none⟩) (ec [Lg.one 1 1]) → Lies W (some ⟨B2, 0, none⟩) (ec [Lg.one 3 1]) → Calls Try.prog 13 #[.int .u64 0, .int .u64 0, .int .u8 7, .slice (some ⟨n, 0, none⟩) 2 2] (W.alloc (.cells #[.slice (some ⟨B1, 0, none⟩) 1 1, .slice (some ⟨B2, 0, none⟩) 1 1] 23)) fun r w' => r = .returned (.tuple #[.pointer none, .int .i64 1]) ∧ Below W.heap.size W w') := Lib.hid fun W B1 B2 n hn h1 h2 => by
    subst hn
    exact bad_new 0 (by decide) [⟨some ⟨B1, 0, none⟩, 1, [Lg.one 1 1]⟩, ⟨some ⟨B2, 0, none⟩, 1, [Lg.one 3 1]⟩] W (fun g hg => by
      simp only [List.mem_cons, List.not_mem_nil, or_false] at hg
      rcases hg with rfl | rfl
      · exact ⟨Lg.one 1 1, by simp, rfl, rfl, h1, by simp⟩
      · exact ⟨Lg.one 3 1, by simp, rfl, rfl, h2, by simp⟩) (Nat.le_refl 2) (show Lg.fit 0 0 [Lg.one 1 1, Lg.one 3 1] = false by decide)
  have C24 : Hid (∀ (W : World) (B1 n : Nat), n = W.heap.size → Lies W (some ⟨B1, 0, none⟩) (ec [Lg.one 1 1]) → Calls Try.prog 13 #[.int .u64 0, .int .u64 2, .int .u8 7, .slice (some ⟨n, 0, none⟩) 1 1] (W.alloc (.cells #[.slice (some ⟨B1, 0, none⟩) 1 1] 23)) fun r w' => r = .returned (.tuple #[.pointer none, .int .i64 1]) ∧ Below W.heap.size W w') := Lib.hid fun W B1 n hn h1 => by
    subst hn
    exact bad_new 2 (by decide) [⟨some ⟨B1, 0, none⟩, 1, [Lg.one 1 1]⟩] W (fun g hg => by
      simp only [List.mem_cons, List.not_mem_nil, or_false] at hg
      subst hg
      exact ⟨Lg.one 1 1, by simp, rfl, rfl, h1, by simp⟩) (show 1 ≤ 2 by decide) (show Lg.fit 0 2 [Lg.one 1 1] = false by decide)
  have C25 : Hid (∀ W p, NewI w W p Lg.k5 → Calls Try.prog 25 #[.pointer (some ⟨p, 0, none⟩), .int .u64 0, .int .i64 9] W fun r w' => ∃ A c, r = .returned (.slice A 2 c) ∧ Below W.heap.size W w' ∧ NewI w w' p Lg.k5) := Lib.hid fun W p h => by
    have h' := h
    obtain ⟨⟨S, h1, h2⟩, h3⟩ := h
    refine (from_any W h1 0 9 (by decide) (by decide)).mono fun r w' hr => ?_
    obtain ⟨A, c, r1, r2, _, _, r5⟩ := hr.lies
    exact ⟨A, c, r1, r5, h'.bel r5⟩
  have C26 : Hid (∀ W p, NewI w W p Lg.k5 → Calls Try.prog 26 #[.pointer (some ⟨p, 0, none⟩), .int .u64 3] W fun r w' => r = .returned (.int .u8 7) ∧ NewI w w' p Lg.k5) := Lib.hid fun W p h => rd h fun S hs => membersAt_any W hs 3 (by decide)
  have C27 : Hid (∀ W p, NewI w W p Lg.k5 → Calls Try.prog 30 #[.pointer (some ⟨p, 0, none⟩), .int .u64 1] W fun r w' => r = .returned (.int .i64 10) ∧ NewI w w' p Lg.k5) := Lib.hid fun W p h => cut_n h 1 (by decide)
  have C28 : Hid (∀ W p, NewI w W p Lg.k5 → Calls Try.prog 30 #[.pointer (some ⟨p, 0, none⟩), .int .u64 5] W fun r w' => r = .returned (.int .i64 4) ∧ NewI w w' p Lg.k5) := Lib.hid fun W p h => cut_n h 5 (by decide)
  have hX4 : Hid (X[0]? = some (.int .u64 4)) := Lib.hid (by rw [hX]; rfl)
  clear hX HOn
  go_enter Try.func5, Try.ntmps5
  go_upto_region 4 with (go_at_call 13; refine HNw.out.mono ?_; rintro r w1 ⟨p, rfl, i1⟩)
  go_upto_region 11 with (first
    | (go_at_call 24; refine (C5.out _ _ i5).mono ?_; rintro r w6 ⟨rfl, i6⟩)
    | (go_at_call 24; refine (C4.out _ _ i4).mono ?_; rintro r w5 ⟨rfl, i5⟩)
    | (go_at_call 23; refine (C3.out _ _ i3).mono ?_; rintro r w4 ⟨rfl, i4⟩)
    | (go_at_call 22; refine (C2.out _ _ i2).mono ?_; rintro r w3 ⟨rfl, i3⟩)
    | (go_at_call 28; refine (C1.out _ _ i1).mono ?_; rintro r w2 ⟨rfl, i2⟩))
  go_upto_region 12 with (first
    | (go_at_call 20; refine (C6.out w8 _ i8).mono ?_; rintro r w9 ⟨A9, c9, rfl, i9⟩)
    | (go_at_call 29; refine (H32.out w7).mono ?_; rintro r w8 ⟨rfl, b8⟩; have i8 := i7.bel b8)
    | (go_at_call 29; refine (H21.out w6).mono ?_; rintro r w7 ⟨rfl, b7⟩; have i7 := i6.bel b7))
  go_upto_region 13 with (first
    | (go_at_call 20; refine (C7.out w10 _ i10).mono ?_; rintro r w11 ⟨A11, c11, rfl, i11⟩)
    | (go_at_call 29; refine (H33.out w9).mono ?_; rintro r w10 ⟨rfl, b10⟩; have i10 := i9.bel b10))
  go_upto_region 15 with (first
    | (go_at_call 27; refine (C12.out _ _ i17).mono ?_; rintro r w18 ⟨rfl, i18⟩)
    | (go_at_call 27; refine (C11.out _ _ i16).mono ?_; rintro r w17 ⟨rfl, i17⟩)
    | (go_at_call 27; refine (C10.out _ _ i15).mono ?_; rintro r w16 ⟨rfl, i16⟩)
    | (go_at_call 17; refine (C9.out w14 _ _ ((l12.below b13).below b14)).mono ?_; rintro r w15 ⟨rfl, b15⟩; have i15 := i14.bel b15)
    | (go_at_call 29; refine (H33.out w13).mono ?_; rintro r w14 ⟨rfl, b14⟩; have i14 := i13.bel b14)
    | (go_at_call 29; refine (H21.out w12).mono ?_; rintro r w13 ⟨rfl, b13⟩; have i13 := i12.bel b13)
    | (go_at_call 25; refine (C8.out _ _ i11).mono ?_; rintro r w12 ⟨A12, c12, rfl, l12, i12⟩))
  go_upto_region 17 with (first
    | (go_at_call 20; refine (C14.out w19 _ i19).mono ?_; rintro r w20 ⟨rfl, i20⟩)
    | (go_at_call 20; refine (C13.out w18 _ i18).mono ?_; rintro r w19 ⟨rfl, i19⟩))
  go_upto_region 20 with (first
    | (go_at_call 20; refine (C15.out w21 _ i21).mono ?_; rintro r w22 ⟨A22, c22, rfl, i22⟩)
    | (go_at_call 29; refine (H11.out w20).mono ?_; rintro r w21 ⟨rfl, b21⟩; have i21 := i20.bel b21))
  go_upto_region 23 with (first
    | (go_at_call 24; refine (C18.out _ _ i24).mono ?_; rintro r w25 ⟨rfl, i25⟩)
    | (go_at_call 21; refine (C17.out _ _ i23).mono ?_; rintro r w24 ⟨rfl, i24⟩)
    | (go_at_call 30; refine (C16.out _ _ i22).mono ?_; rintro r w23 ⟨rfl, i23⟩))
  go_upto_region 24 with (first
    | (go_at_call 20; refine (C19.out w28 _ i28).mono ?_; rintro r w29 ⟨A29, c29, rfl, i29⟩)
    | (go_at_call 29; refine (H33.out w27).mono ?_; rintro r w28 ⟨rfl, b28⟩; have i28 := i27.bel b28)
    | (go_at_call 29; refine (H21.out w26).mono ?_; rintro r w27 ⟨rfl, b27⟩; have i27 := i26.bel b27)
    | (go_at_call 29; refine (H11.out w25).mono ?_; rintro r w26 ⟨rfl, b26⟩; have i26 := i25.bel b26))
  go_upto_region 25 with (first
    | (go_at_call 20; refine (C20.out w30 _ i30).mono ?_; rintro r w31 ⟨rfl, i31⟩)
    | (go_at_call 29; refine (H11.out w29).mono ?_; rintro r w30 ⟨rfl, b30⟩; have i30 := i29.bel b30))
  go_upto_region 26 with (first
    | (refine wpList_store_sub rfl 62 _ _ rfl w32.heap.size 0 rfl 62 (entC En.zero) X rfl (Rw.new w32 (entC En.zero) 62) (by rw [hXs]; decide) HZ HO ?_)
    | (go_at_call 28; refine (C21.out _ _ i31).mono ?_; rintro r w32 ⟨rfl, i32⟩))
  refine forget (fun W => NewI w W p Lg.k5 ∧ Rw W w32.heap.size X 62) ⟨i32.bel (((Bl.refl w32).alloc _).puts (Nat.le_refl _) _ _), (Rw.new w32 (entC En.zero) 62).over (by rw [hXs]; rfl)⟩ ?_
  generalize w32.heap.size = g
  intro V H26
  have i33 := H26.1
  have HR := Lib.hid H26.2
  clear H26
  obtain ⟨w33, hw⟩ : ∃ U, U = V := ⟨_, rfl⟩
  subst hw
  have M22 : Hid (∀ S, LgAt w33 p S Lg.k5 → Calls Try.prog 23 #[.pointer (some ⟨p, 0, none⟩)] w33 (RetL (.tuple #[.int .u8 3, .int .u64 4]) w33)) := Lib.hid fun S hs => members_any w33 hs
  obtain ⟨S26, hS26⟩ : ∃ S, LgAt w33 p S Lg.k5 := by obtain ⟨⟨S, h, _⟩, _⟩ := i33; exact ⟨S, h⟩
  go_upto_region 27 with (go_at_call 23; refine (M22.out _ hS26).mono ?_; rintro r x1 ⟨rfl, y1⟩)
  have HJ : Hid (∀ {W W' : World}, Below W.heap.size W W' → (NewI w W p Lg.k5 ∧ W.cell? ⟨g, 0, none⟩ = some (.int .u64 4)) → (NewI w W' p Lg.k5 ∧ W'.cell? ⟨g, 0, none⟩ = some (.int .u64 4))) := Lib.hid fun hb h => ⟨h.1.bel hb, later hb h.2⟩
  have j1 := HJ.out y1 ⟨i33, HR.out.cell 0 hX4.out⟩
  clear HR i33 y1 hS26 M22
  go_upto_region 28 with (first
    | (go_at_call 13; refine (C23.out _ x2.heap.size x3.heap.size _ (by simp) (((Lies.new x2 (ec [Lg.one 1 1]) 62).below y3).below (bnew (Below.refl _ _) _)) (Lies.new x3 (ec [Lg.one 3 1]) 62)).mono ?_; rintro r x4 ⟨rfl, y4⟩; have j4 := HJ.out y4 (HJ.out (bnew (Below.refl _ _) _) j3))
    | (go_at_call 29; refine (H31.out (x2.alloc (.cells (ec [Lg.one 1 1]).toArray 62))).mono ?_; rintro r x3 ⟨rfl, y3⟩; have j3 := HJ.out y3 (HJ.out (bnew (Below.refl _ _) _) j2))
    | (go_at_call 29; refine (H11.out x1).mono ?_; rintro r x2 ⟨rfl, y2⟩; have j2 := HJ.out y2 j1))
  clear C1 C2 C3 C4 C5 C6 C7 C8 C9 C10 C11 C12 C13 C14 C15 C16 C17 C18 C19 C20 C21 C22 C23 H21 H32 H33 H31 HNw HZ HO hXs HX hX4 i1 i2 i3 i4 i5 i6 i7 i8 i9 i10 i11 i12 i13 i14 i15 i16 i17 i18 i19 i20 i21 i22 i23 i24 i25 i26 i27 i28 i29 i30 i31 i32
  clear y2 y3 y4 j1 j2 j3
  go_wp2_with (first
    | (go_at_call 12; refine (HAw.out x10).mono ?_; rintro r x11 ⟨rfl, y11⟩; have i11 := i10.bel y11)
    | (go_at_call 30; refine (C28.out _ _ i9).mono ?_; rintro r x10 ⟨rfl, i10⟩)
    | (go_at_call 30; refine (C27.out _ _ i8).mono ?_; rintro r x9 ⟨rfl, i9⟩)
    | (go_at_call 26; refine (C26.out _ _ i7).mono ?_; rintro r x8 ⟨rfl, i8⟩)
    | (go_at_call 25; refine (C25.out _ _ j6.1).mono ?_; rintro r x7 ⟨A7, c7', rfl, y7, _⟩; obtain ⟨i7, c7⟩ := HJ.out y7 j6)
    | (go_at_call 13; refine (C24.out _ x5.heap.size _ (by simp) (Lies.new x5 (ec [Lg.one 1 1]) 62)).mono ?_; rintro r x6 ⟨rfl, y6⟩; have j6 := HJ.out y6 (HJ.out (bnew (Below.refl _ _) _) j5))
    | (go_at_call 29; refine (H11.out x4).mono ?_; rintro r x5 ⟨rfl, y5⟩; have j5 := HJ.out y5 j4))
  go_ret
  exact ⟨rfl, i11.bl⟩
end Go.Proofs.Ytahkkdnmmneehaa
