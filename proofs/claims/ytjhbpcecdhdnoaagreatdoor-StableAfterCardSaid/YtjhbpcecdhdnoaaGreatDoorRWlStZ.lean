/-
  wal's Segments walked on a disk that has no file; slices.Sort of no numbers.
  wal's Segments walked on a disk that has one file, a segment, and at no disk; slices.Sort of one number.
  wal's Segments walked on any disk, given that the sort sorts.
-/
import Derived.Test.YtjhbpcecdhdnoaaGreatDoorRWwX
import Derived.Test.YtjhbpcecdhdnoaaGreatDoorRWwNumbZ
import Derived.Test.YtjhbpcecdhdnoaaGreatDoorRBldZ
import Derived.Test.YtjhbpcecdhdnoaaGreatDoorRStOpenRZ
set_option linter.unusedSimpArgs false
set_option linter.unusedVariables false
namespace Go.Proofs.YtjhbpcecdhdnoaaGreatDoor
open Go.RowKit
end Go.Proofs.YtjhbpcecdhdnoaaGreatDoor
namespace Go.Proofs.YtjhbpcecdhdnoaaGreatDoor
open Go.RowKit
theorem infoU64 : (Tryz.prog.info? 38).map (fun i => (i.zero, i.size, i.bytes)) = some (some (.int .u64 0), 1, 8) := by kernel_rfl
section
variable {At : DkAt}
end
end Go.Proofs.YtjhbpcecdhdnoaaGreatDoor
namespace Go.Proofs.YtjhbpcecdhdnoaaGreatDoor
open Go.RowKit
theorem insU_length (n : Nat) : ∀ l, (St.insU n l).length = l.length + 1
  | [] => rfl
  | m :: l => by
    unfold St.insU
    split
    · rfl
    · rw [List.length_cons, insU_length n l, List.length_cons]
theorem sortU_length : ∀ l, (St.sortU l).length = l.length
  | [] => rfl
  | n :: l => by
    show (St.insU n (St.sortU l)).length = _
    rw [insU_length, sortU_length l, List.length_cons]
def SortU (M : Nat) : Prop := ∀ (B : Nat) (v : Value) (ns : List Nat) (w : World), w.ownsRow B 38 1 v ns.length (uc ns) → (∀ n ∈ ns, n < Nm.top) → ns.Nodup → ns.length ≤ M →
  Calls Tryz.prog 60 #[v] w fun e w' => e = .returned (.tuple #[]) ∧ w'.ownsRow B 38 1 v ns.length (uc (St.sortU ns)) ∧ Below B w w'
theorem fm_take {l : List ByteArray} {j : Nat} (h : j < l.length) : (l.take (j + 1)).filterMap St.number = (l.take j).filterMap St.number ++ (match St.number l[j] with | some n => [n] | none => []) := by
  rw [List.take_add_one, List.getElem?_eq_getElem h, Option.toList_some, List.filterMap_append]
  congr 1
  cases hn : St.number l[j] with
  | none => simp [hn]
  | some n => simp [hn]
section
variable {At : DkAt}
set_option maxRecDepth 100000 in
set_option maxHeartbeats 4000000 in
theorem segs_any {M : Nat} (hsort : SortU M) (K : DiskK At) (W : World) (p : Nat) (S : Nat → Prop) (d : Dk.D) (hA : At W p S d) (hE : EnvT W) (hF : EnvE W) (hM : ((Dk.list d).filterMap St.number).length ≤ M) :
    Calls Tryz.prog 15 #[.pointer (some ⟨p, 0, none⟩)] W fun e w' => ∃ B c, e = .returned (.slice B (St.segs d).length c) ∧ Lies w' B (uc (St.segs d)) ∧ Below W.heap.size W w' := by
  have HL := Lib.hid (K.list W p S d hA)
  have hinv := K.inv hA
  have hnd := St.list_nodup hinv
  have hlen : (Dk.list d).length ≤ 100000000 := by
    have h1 := K.load hA
    have key : ∀ fs : List Dk.Fl, fs.length ≤ Dk.fsLoad fs := by
      intro fs
      induction fs with
      | nil => exact Nat.le_refl _
      | cons f fs ih => rw [Dk.fsLoad_cons, List.length_cons]; unfold Dk.flLoad; omega
    have h2 := key d.files
    unfold Dk.list; rw [List.length_map]
    unfold Dk.load at h1; omega
  have HSo := Lib.hid (fun (B : Nat) (v : Value) w h => hsort B v ((Dk.list d).filterMap St.number) w h (fun n hn => by obtain ⟨x, _, hx⟩ := List.mem_filterMap.1 hn; exact (St.number_some hx).1) (St.filterMap_nodup hnd) hM)
  have HG : Hid (St.segs d = St.sortU ((Dk.list d).filterMap St.number)) := Lib.hid rfl
  have HN := Lib.hid (fun x (hx : x ∈ Dk.list d) w (hb : Below W.heap.size W w) => wnumber_any x w (hE.below hb (Nat.le_refl _)) (hF.below hb (Nat.le_refl _)) (by have := list_size hx; have := K.load hA; omega))
  obtain ⟨L, hLL⟩ : ∃ L, L = Dk.list d := ⟨_, rfl⟩
  rw [← hLL] at HL HSo HG HN hlen
  obtain ⟨G, hGG⟩ : ∃ G, G = St.segs d := ⟨_, rfl⟩
  rw [← hGG] at HG ⊢
  obtain ⟨i0, hi, hz0, hz1, hz2⟩ := info_parts infoU64
  have HI0 := Lib.hid (And.intro hi (And.intro hz0 (And.intro hz1 hz2)))
  clear hA hE hF hi hz0 hz1 hz2 K hsort hnd hinv hM hLL hGG
  go_enter Tryz.func15, Tryz.ntmps15
  go_wp2_with fail
  refine HL.out.mono ?_
  rintro e w1 ⟨A, cap, rfl, hli, _, hb1⟩
  have H1 := Lib.hid (And.intro hb1 hli)
  clear hb1 hli
  go_wp2_with fail
  go_loopw [3, 11] (fun v i wr => ∃ j, j ≤ L.length ∧ i = .int .i64 (j : Int) ∧ Below W.heap.size W wr ∧ Below w1.heap.size w1 wr ∧ wr.ownsRow w1.heap.size 38 1 v ((L.take j).filterMap St.number).length (uc ((L.take j).filterMap St.number))) (fun _ i _ => L.length - (intOf i).toNat)
  case atStart => exact ⟨0, Nat.zero_le _, rfl, H1.out.1, Below.refl _ _, World.ownsRow_nil _ _ _ _⟩
  case round =>
    obtain ⟨j, hj, rfl, hbW, hb1, hown⟩ := hrel
    by_cases hlt : j < L.length
    · obtain ⟨x, hx⟩ : ∃ x, x = L[j] := ⟨_, rfl⟩
      have hmem : x ∈ L := by rw [hx]; exact List.getElem_mem hlt
      have hft := fm_take hlt
      rw [← hx] at hft
      have hcell : ∃ bb oo, A = some ⟨bb, oo, none⟩ ∧ wr.cell? ⟨bb, oo + j, none⟩ = some (.string x) := by
        rcases H1.out.2.below hb1 with h | ⟨bb, oo, rfl, _, hc⟩
        · exfalso
          have := congrArg List.length h
          simp [sc] at this; simp [this] at hlt
        · exact ⟨bb, oo, rfl, hc j _ (by simp [sc, hlt, hx])⟩
      obtain ⟨bb, oo, rfl, hcell⟩ := hcell
      obtain ⟨ns, hns⟩ : ∃ ns, ns = (L.take j).filterMap St.number := ⟨_, rfl⟩
      have hnl : ns.length ≤ 100000000 := by
        rw [hns]
        have := List.length_filterMap_le St.number (L.take j)
        rw [List.length_take] at this
        omega
      rw [← hns] at hown hft
      have HNx := Lib.hid (HN.out x hmem wr hbW)
      have HO := Lib.hid (And.intro hbW (And.intro hb1 hown))
      have Hft := Lib.hid hft
      clear hbW hb1 hown hx hmem hns hft
      go_wp2_with fail
      refine HNx.out.mono ?_
      rintro e w2 ⟨u, ok, rfl, hu, h1, h2, hb2⟩
      have HB2 := Lib.hid (And.intro (bnext HO.out.1 hb2) (And.intro (bnext HO.out.2.1 hb2) (own_kept HO.out.2.2 (fun k hk => hb2.block k (own_lt HO.out.2.2 hk).1))))
      clear hb2 hcell
      have hui : u ≤ 18446744073709551615 := by unfold Nm.top at hu; omega
      cases ok with
      | false =>
        have hno := number_no (h2 rfl).2
        have E : Hid ((L.take (j + 1)).filterMap St.number = ns) := Lib.hid (by rw [Hft.out, hno]; simp)
        clear hno h1 h2 hu
        go_wp2_with fail
        go_roundw
        case rel => exact ⟨j + 1, by omega, by go_num, HB2.out.1, HB2.out.2.1, by rw [E.out]; exact HB2.out.2.2⟩
        case measure => simp [intOf]; omega
      | true =>
        have hsm := number_says hu (h1 rfl)
        have E : Hid ((L.take (j + 1)).filterMap St.number = ns ++ [u]) := Lib.hid (by rw [Hft.out, hsm])
        have HB3 := Lib.hid (And.intro (bnew HB2.out.1 (.cells #[.int .u64 (u : Int)] 38)) (And.intro (bnew HB2.out.2.1 (.cells #[.int .u64 (u : Int)] 38)) (HB2.out.2.2.alloc (.cells #[.int .u64 (u : Int)] 38))))
        have HNw := Lib.hid (news_fl w2 [.int .u64 (u : Int)] 38)
        clear hsm h1 h2 hu
        go_wp2_with (at_builtin; refine wpList_app_own rfl (.tmp 21) (.tmp 23) 50 rfl w1.heap.size 38 i0 (.int .u64 0) 1 8 Tryz.underlying50 HI0.out.1 HI0.out.2.1 HI0.out.2.2.1 HI0.out.2.2.2 rfl (by decide) _ ns.length (uc ns) rfl HB3.out.2.2 ⟨w2.heap.size, 0, none⟩ 1 1 [.int .u64 (u : Int)] rfl rfl HNw.out (by simp [Value.oneCell']) (by simp only [maxLen]; omega) (by omega) HB3.out.2.1.size ?_)
        intro v' w5 ho5 hg5 hn5
        have HFn : Hid (w5.ownsRow w1.heap.size 38 1 v' (ns ++ [u]).length (uc (ns ++ [u])) ∧ Below W.heap.size W w5 ∧ Below w1.heap.size w1 w5) := Lib.hid ⟨by rw [List.length_append]; simpa [uc] using ho5, HB3.out.1.grown hg5 HB3.out.1.size (fun k hk => Nat.le_trans H1.out.1.size (own_lt HB3.out.2.2 hk).2), HB3.out.2.1.grown hg5 HB3.out.2.1.size (fun k hk => (own_lt HB3.out.2.2 hk).2)⟩
        clear ho5 hg5 hn5
        go_wp2_with fail
        go_roundw
        case rel => exact ⟨j + 1, by omega, by go_num, HFn.out.2.1, HFn.out.2.2, by rw [E.out]; exact HFn.out.1⟩
        case measure => simp [intOf]; omega
    · obtain rfl : j = L.length := by omega
      rw [List.take_of_length_le (Nat.le_refl _)] at hown
      have HB := Lib.hid hbW
      have HSx := Lib.hid (HSo.out _ _ wr hown)
      have HB1 := Lib.hid hb1
      clear hbW hb1 hown
      go_wp2_with fail
      refine HSx.out.mono ?_
      rintro e w3 ⟨rfl, ho3, hb3⟩
      obtain ⟨C, cc, rfl, hlies⟩ := own_slice ho3
      have HO3 := Lib.hid ho3
      have HB3 := Lib.hid hb3
      clear ho3 hb3 hlies
      go_wp2_with fail
      go_ret
      have hw := H1.out.1.size
      refine ⟨C, cc, by rw [HG.out, sortU_length]; rfl, by rw [HG.out]; exact lies_own HO3.out, ?_⟩
      exact ⟨HB3.out.os.trans HB.out.os, HB3.out.tape.trans HB.out.tape, HB3.out.output.trans HB.out.output, Nat.le_trans HB.out.size HB3.out.size, fun k hk => (HB3.out.block k (by omega)).trans (HB.out.block k hk)⟩
end
end Go.Proofs.YtjhbpcecdhdnoaaGreatDoor
