/-
  wapentakelaw07.plays walked: acts are done, one behind the other.
-/
import Derived.Test.YtjmnoogaffjdiaaRDkDoes
set_option linter.unusedSimpArgs false
set_option linter.unusedVariables false
namespace Go.Proofs.Ytjmnoogaffjdiaa
open Go.RowKit
section
variable {P : Program} {ops : Array Oper} {Q : Exit → Act → World → Prop} {a : Act} {w : World} {rest : List Oper} {o : Oper}
/-- A struct whose cells lie in a block from place k on is loaded. -/
theorem wpList_load_rng (hw : Region.wanted o (yielded ops a.tmps) = true) (ty : TypeId) (x : Operand) (ho : o.op = .load ty x)
    (g k : Nat) (hx : a.eval x = .pointer (some ⟨g, k, none⟩)) (Y : Array Value) (d : TypeDesc) (hr : w.rangeAt g k Y.toList)
    (hu : P.underlying ty = some d) (hd : d.isRow = true) (hi : (P.info? ty).map (·.size) = some Y.size)
    (h : wpList P ops Q rest (a.put o.dst (.agg Y)) w) : wpList P ops Q (o :: rest) a w :=
  wpList_want hw fun K hK => wp_load_mid ty x ho g k hx Y.toList d hr hu hd (by simpa using hi) (by simpa using hK _ _ h)
end
theorem sizeAct (g : Ga) : (Try.prog.info? 38).map (·.size) = some (actC g).size := by
  show _ = some 6
  kernel_rfl
/-- Acts that are handed in. -/
structure Acts (w : World) (A : Option Addr) (gs : List Ga) : Prop where
  lies : Lies w A (ac gs)
  given : ∀ g ∈ gs, GivenA w g
  len : gs.length ≤ maxLen
def xs (gs : List Ga) : List Dk.Act := gs.map (·.x)
theorem xs_length (gs : List Ga) : (xs gs).length = gs.length := by simp [xs]
theorem xs_at (gs : List Ga) (k : Nat) (h : k < gs.length) : (xs gs)[k]'(by rw [xs_length]; exact h) = gs[k].x := by simp [xs]
theorem actsLoad_at : ∀ (l : List Dk.Act) (k : Nat) (h : k < l.length), Dk.actsLoad (l.take k) + Dk.actLoad l[k] ≤ Dk.actsLoad l
  | x :: l, 0, _ => by simp [Dk.actsLoad]
  | x :: l, k + 1, h => by
    have := actsLoad_at l k (by simpa using h)
    simp only [Dk.actsLoad, List.take_succ_cons, List.map_cons, List.sum_cons, List.getElem_cons_succ] at this ⊢
    omega
section
variable {At : DkAt}
theorem Now.below {w0 w W : World} {p : Nat} {S : Nat → Prop} {d : Dk.D} (h : Now At w W p S d) (hb : Below w0.heap.size w0 w) (hS : ∀ k, S k → w0.heap.size ≤ k) : Below w0.heap.size w0 W := Ko.below hb h.ko hb.size hS
/-- An act of those that were handed in is done at a disk that came of the call. -/
theorem does_in (K : DiskK At) {w0 w W : World} (hb : Below w0.heap.size w0 w) {p : Nat} {S : Nat → Prop} {d : Dk.D} (hS : ∀ k, S k → w0.heap.size ≤ k) (hn : Now At w W p S d) {g : Ga} (gv : GivenA w0 g) (hl : Dk.load d + Dk.actLoad g.x ≤ 100000000) :
    Calls Try.prog 13 #[.pointer (some ⟨p, 0, none⟩), .agg (actC g)] W (RetDo At d g.x p S w) := by
  have hw := hn.below hb hS
  obtain ⟨⟨S', h1, h2⟩, h3⟩ := hn
  have hS' : ∀ k, S' k → w0.heap.size ≤ k := fun k hk => (h2 k hk).elim (hS k) (fun h => Nat.le_trans hb.size h)
  exact (does_any K W p S' d g h1 (gv.below hw) (Away.of_lt gv.kl (Nat.le_refl _) hS') (Away.of_lt gv.tl (Nat.le_refl _) hS') hl).mono fun e w' ⟨e1, e2⟩ => ⟨e1, Now.trans h3 h2 e2⟩
set_option maxRecDepth 100000 in
set_option maxHeartbeats 4000000 in
theorem plays_any (K : DiskK At) (w0 w : World) (hb : Below w0.heap.size w0 w) (p : Nat) (S : Nat → Prop) (d : Dk.D) (hS : ∀ k, S k → w0.heap.size ≤ k) (h : At w p S d) (gs : List Ga) (A : Option Addr) (cap : Nat) (ga : Acts w0 A gs) (hl : Dk.load d + Dk.actsLoad (xs gs) ≤ 100000000) :
    Calls Try.prog 30 #[.pointer (some ⟨p, 0, none⟩), .slice A gs.length cap] w fun e w' => e = .returned (.tuple #[]) ∧ Now At w w' p S (Dk.plays d (xs gs)) := by
  have HA := Lib.hid ga
  have HB := Lib.hid hb
  have HS := Lib.hid hS
  have H0 : Hid (Now At w w p S d) := Lib.hid ⟨⟨S, h, fun _ hk => .inl hk⟩, Ko.refl _ _⟩
  have HL : Hid (∀ k, (hk : k < gs.length) → Dk.load (Dk.plays d ((xs gs).take k)) + Dk.actLoad gs[k].x ≤ 100000000) := Lib.hid fun k hk => by
    have h1 := Dk.load_plays ((xs gs).take k) (K.inv h)
    have h2 := actsLoad_at (xs gs) k (by rw [xs_length]; exact hk)
    rw [xs_at gs k hk] at h2
    omega
  have HP : Hid (∀ k, (hk : k < gs.length) → Dk.plays d ((xs gs).take (k + 1)) = (Dk.does (Dk.plays d ((xs gs).take k)) gs[k].x).2) := Lib.hid fun k hk => by
    rw [Dk.plays_take (by rw [xs_length]; exact hk), xs_at gs k hk]
  have hlen : gs.length ≤ maxLen := ga.len
  unfold maxLen at hlen
  clear ga hb hS h hl
  go_enter Try.func30, Try.ntmps30
  go_wp2_with fail
  go_loopw [4] (fun i wr => ∃ k : Nat, k ≤ gs.length ∧ i = .int .i64 (k : Int) ∧ Now At w wr p S (Dk.plays d ((xs gs).take k))) (fun i _ => gs.length - (intOf i).toNat)
  case atStart => exact ⟨0, Nat.zero_le _, rfl, H0.out⟩
  case round =>
    obtain ⟨k, hk, rfl, hn⟩ := hrel
    have HN := Lib.hid hn
    clear hn
    by_cases hlt : k < gs.length
    · have hbw := Now.below HN.out HB.out HS.out
      obtain ⟨b, off, hAe, hE⟩ := (HA.out.lies.below hbw).act k hlt
      have hg := HA.out.given gs[k] (List.getElem_mem hlt)
      have hL := HL.out k hlt
      have hP := HP.out k hlt
      obtain ⟨g, hgk⟩ : ∃ g, g = gs[k] := ⟨_, rfl⟩
      rw [← hgk] at hE hg hL hP
      have HD := Lib.hid (does_in K HB.out HS.out HN.out hg hL)
      have HRg := Lib.hid hE.rng
      have HZ := Lib.hid (sizeAct g)
      have HP1 := Lib.hid hP
      subst hAe
      clear hE hg hL hP hgk hbw
      generalize actC g = Y at HD HRg HZ
      go_wp2_with (refine wpList_load_rng rfl 38 _ rfl b (off + k * 6) rfl Y _ HRg.out Try.underlying38 rfl HZ.out ?_)
      refine (HD.out).mono ?_
      rintro e w1 ⟨rfl, hn1⟩
      go_wp2_with fail
      go_roundw
      case rel => exact ⟨k + 1, by omega, by go_num, by rw [HP1.out]; exact hn1⟩
      case measure => simp [intOf]; omega
    · obtain rfl : k = gs.length := by omega
      go_wp2_with fail
      go_end0
      have := HN.out
      rw [List.take_of_length_le (by rw [xs_length]; exact Nat.le_refl _)] at this
      exact ⟨rfl, this⟩
end
end Go.Proofs.Ytjmnoogaffjdiaa
