/-
  SumOf walked.
-/
import Derived.Test.YtjnbkjfpbbjepaaSumAwake
import Derived.Test.YtjnbkjfpbbjepaaSumRef
namespace Go.Proofs.Ytjnbkjfpbbjepaa
open Go.RowKit

def cat (ss : List ByteArray) : List UInt8 := (ss.map fun s => s.data.toList).flatten
theorem cat_take (ss : List ByteArray) (k : Nat) (hk : k < ss.length) : cat (ss.take (k + 1)) = cat (ss.take k) ++ ss[k].data.toList := by
  unfold cat
  rw [List.take_succ_eq_append_getElem hk, List.map_append, List.flatten_append, List.map_singleton, List.flatten_singleton]

set_option maxHeartbeats 2000000 in
set_option maxRecDepth 100000 in
theorem sumOf_walk (S : SumSays) (w : World) (A : Option Addr) (cap : Nat) (ss : List ByteArray) (hl : Lies w A (sc ss)) (hs : ∀ s ∈ ss, s.size ≤ maxLen) (hm : ss.length ≤ maxLen) :
    Calls Try.prog 5 #[.slice A ss.length cap] w fun e w' => e = .returned (.bool true) ∧ Below w.heap.size w w' := by
  unfold maxLen at hm
  by_cases h30 : 30 < ss.length
  · clear hl hs
    go_enter Try.func5, Try.ntmps5
    go_wp2_with (go_at_call 10; refine (sumAwake_any S _).mono ?_; rintro e w6 ⟨rfl, hb6⟩)
    go_ret
    exact ⟨rfl, hb6⟩
  · have d1 : decide ((30 : Int) < (ss.length : Int)) = false := by simp; omega
    have Hs := Lib.hid hs
    have Hl := Lib.hid hl
    clear hs hl
    go_enter Try.func5, Try.ntmps5
    go_wp2
    go_loop [3, 4] (fun v i => ∃ (k : Nat) (s : ByteArray), k ≤ ss.length ∧ v = .string s ∧ i = .int .i64 (k : Int) ∧ s.data.toList = cat (ss.take k) ∧ s.size ≤ 6000 ∧ (∀ x ∈ ss.take k, x.size ≤ 3000)) (fun _ i => ss.length - (intOf i).toNat)
    case atStart => exact ⟨0, _, Nat.zero_le _, rfl, rfl, rfl, by decide, by simp⟩
    case round =>
      obtain ⟨k, s, hk, rfl, rfl, hsl, hsz, hall⟩ := hrel
      have Hsl := Lib.hid hsl
      have Hall := Lib.hid hall
      clear hsl hall
      by_cases hlt : k < ss.length
      · rcases Hl.out with hl | ⟨b, off, rfl, hlb, hc⟩
        · exfalso; have := congrArg List.length hl; simp [sc] at this; simp [this] at hlt
        · have hcell : w.cell? ⟨b, off + k, none⟩ = some (.string ss[k]) := hc k _ (by simp [sc, hlt])
          have hxz := Hs.out ss[k] (List.getElem_mem hlt)
          unfold maxLen at hxz
          have Hct := Lib.hid (cat_take ss k hlt)
          have Htk := Lib.hid (List.take_succ_eq_append_getElem hlt)
          obtain ⟨x, hx⟩ : ∃ x, x = ss[k] := ⟨_, rfl⟩
          rw [← hx] at hcell hxz Hct Htk
          clear hx hc
          by_cases hbig : 3000 < x.size
          · go_wp2_with (go_at_call 10; refine (sumAwake_any S _).mono ?_; rintro e w6 ⟨rfl, hb6⟩)
            go_ret
            exact ⟨rfl, hb6⟩
          · by_cases hbig2 : 3000 < s.size
            · go_wp2_with (go_at_call 10; refine (sumAwake_any S _).mono ?_; rintro e w6 ⟨rfl, hb6⟩)
              go_ret
              exact ⟨rfl, hb6⟩
            · go_wp2
              go_round
              case rel =>
                refine ⟨k + 1, s ++ x, by omega, rfl, by go_num, ?_, by rw [ByteArray.size_append]; omega, fun y hy => ?_⟩
                · rw [Hct.out, ← Hsl.out]; simp [ByteArray.data_append]
                · rw [Htk.out, List.mem_append] at hy
                  rcases hy with hy | hy
                  · exact Hall.out y hy
                  · simp at hy; subst hy; omega
              case measure => simp [intOf]; omega
      · obtain rfl : k = ss.length := by omega
        have hz := zeroTable
        have hst := storeTabA
        have hsz' := tabA_size
        have Hmk := Lib.hid S.make
        have hof : ∀ W g, Below w.heap.size w W → TabAt W g → Calls Try.prog 9 #[.pointer (some ⟨g, 0, none⟩), .slice A ss.length cap] W fun e w' => e = .returned (.int .u32 ((Cr.crc s.data.toList : Nat) : Int)) ∧ Below W.heap.size W w' := fun W g hb ht => by
          have := S.of_ W g A cap ss ht (Hl.out.below hb) (by omega) (fun y hy => by have := Hall.out y (by rw [List.take_length]; exact hy); omega)
          have e : crcs ss = Cr.crc s.data.toList := by rw [Hsl.out, List.take_length]; rfl
          rw [e] at this
          exact this
        have Hof := Lib.hid hof
        have Href := Lib.hid (fun W => refOf_any s W (by omega))
        obtain ⟨z, hz'⟩ : ∃ z, z = Cr.crc s.data.toList := ⟨_, rfl⟩
        rw [← hz'] at Hof Href
        clear hof hz'
        by_cases hbig : 3000 < s.size
        · go_wp2_with (first | (go_at_call 8; refine (Hmk.out _).mono ?_; rintro e w1 ⟨rfl, hb1⟩) | (go_at_call 10; refine (sumAwake_any S _).mono ?_; rintro e w6 ⟨rfl, hb6⟩))
          go_ret
          exact ⟨rfl, bnext (bnew hb1 _) hb6⟩
        · go_wp2_with (first | (go_at_call 8; refine (Hmk.out _).mono ?_; rintro e w1 ⟨rfl, hb1⟩) | (go_at_call 9; refine (Hof.out _ _ (bnew hb1 _) (TabAt.new w1)).mono ?_; rintro e w2 ⟨rfl, hb2⟩) | (go_at_call 12; refine (Href.out _).mono ?_; rintro e w' ⟨rfl, rfl⟩) | (go_at_call 10; refine (sumAwake_any S _).mono ?_; rintro e w6 ⟨rfl, hb6⟩))
          go_ret
          exact ⟨rfl, bnext (bnext (bnew hb1 _) hb2) hb6⟩
end Go.Proofs.Ytjnbkjfpbbjepaa
