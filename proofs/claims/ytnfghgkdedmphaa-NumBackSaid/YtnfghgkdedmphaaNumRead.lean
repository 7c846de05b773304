/-
  num.ReadV, num.ReadS and strings.Clone walked.
-/
import Derived.Test.YtnfghgkdedmphaaNumU
import Derived.Lib.UnsafeStr
import Derived.Lib.Strings
import Derived.Lib.BufferWrite
import Derived.Laws.MakeOwn
namespace Go.Proofs.Ytnfghgkdedmphaa
open Go.RowKit

/-- What ReadV answers. -/
def rv (o : Option (Nat × Nat)) : Value := match o with
  | some (n, k) => .tuple #[.int .u64 (n : Int), .int .i64 (k : Int), .bool true]
  | none => .tuple #[.int .u64 0, .int .i64 0, .bool false]

theorem drop_cons (s : ByteArray) (k : Nat) (h : k < s.size) : s.data.toList.drop k = s[k] :: s.data.toList.drop (k + 1) := by
  rw [List.drop_eq_getElem_cons (by simpa using h)]; rfl

theorem or_join7 (a : Nat) (c : UInt8) (h : a ≤ 144115188075855871) : bits .or .u64 ((a : Int) * 128) (IntKind.u64.wrap (bits .and .u8 (c.toNat : Int) 127)) = ((a * 128 + c.toNat % 128 : Nat) : Int) := by
  have hc := c.toNat_lt
  have e : bits .and .u8 (c.toNat : Int) 127 = ((c.toNat % 128 : Nat) : Int) := by
    rw [u8_and _ _ (by omega) (by omega) (by omega) (by omega), show (127 : Int).toNat = 127 from rfl, and127]
    simp
  rw [e]
  have := or_join a (c.toNat % 128) 7 (by omega) (by omega) (by unfold Nm.top; omega)
  rw [wrap_u64_nat (a * 2 ^ 7) (by unfold Nm.top; omega)] at this
  exact this
theorem and128 : ∀ y : Fin 256, (y.val &&& 128 = 0) ↔ y.val < 128 := by decide +kernel
theorem bits128 (c : UInt8) : (bits .and .u8 (c.toNat : Int) 128 == 0) = decide (c.toNat < 128) := by
  have hc := c.toNat_lt
  have h := and128 ⟨c.toNat, hc⟩
  rw [u8_and _ _ (by omega) (by omega) (by omega) (by omega), show (128 : Int).toNat = 128 from rfl, Int.toNat_natCast]
  rw [Bool.eq_iff_iff, beq_iff_eq, decide_eq_true_iff]
  rw [← h]
  show (((c.toNat &&& 128 : Nat) : Int) = 0) ↔ (c.toNat &&& 128) = 0
  omega

theorem ret_uv {a b c d : Int} {t : Bool} (h : a = b) (h2 : c = d) : Ending.returned (.tuple #[.int .u64 a, .int .i64 c, .bool t]) = .returned (.tuple #[.int .u64 b, .int .i64 d, .bool t]) := by rw [h, h2]

set_option maxHeartbeats 800000 in
theorem ReadV_any (s : ByteArray) (w : World) (hs : s.size ≤ 9223372036854775807) :
    Calls Try.prog 10 #[.string s] w fun e w' => e = .returned (rv (Nm.readV s.data.toList)) ∧ w = w' := by
  by_cases h0 : s.size = 0
  · have he : s = ⟨#[]⟩ := ByteArray.ext (Array.eq_empty_of_size_eq_zero h0)
    subst he
    go_enter Try.func10, Try.ntmps10
    go_wp2
    go_ret3
    exact ⟨rfl, rfl⟩
  · have hp : 0 < s.size := by omega
    have hne : s.toList.isEmpty = false := by
      rw [ByteArray.toList_eq, List.isEmpty_eq_false_iff]; intro e
      have := congrArg List.length e; simp at this; exact h0 (by rw [ByteArray.size, this]; rfl)
    have hd := drop_cons s 0 hp
    rw [List.drop_zero] at hd
    by_cases h1 : s[0] = 128
    · have hb : ((s[0].toNat : Int) == 128) = true := by rw [h1]; rfl
      have hr : Nm.readV s.data.toList = none := by
        unfold Nm.readV; rw [hd, h1]; rfl
      have Hr := Lib.hid hr
      clear hr hd h1
      go_enter Try.func10, Try.ntmps10
      go_wp2
      go_ret3
      exact ⟨by rw [Hr.out]; rfl, rfl⟩
    · have hb : ((s[0].toNat : Int) == 128) = false := by
        rw [beq_eq_false_iff_ne]; intro e; apply h1
        exact UInt8.toNat_inj.1 (by have : (128 : UInt8).toNat = 128 := rfl; omega)
      have hr : Nm.readV s.data.toList = Nm.rd s.data.toList 0 0 := by
        unfold Nm.readV; rw [if_neg]; rw [hd]; simpa using h1
      have Hr := Lib.hid hr
      clear hr hd h1
      go_enter Try.func10, Try.ntmps10
      go_wp2
      go_loop [2, 3, 4, 5, 15] (fun x _ _ _ i => ∃ (k a : Nat), k ≤ s.size ∧ i = .int .i64 k ∧ x = .int .u64 (a : Int) ∧ Nm.rd s.data.toList 0 0 = Nm.rd (s.data.toList.drop k) a k) (fun _ _ _ _ i => s.size - (intOf i).toNat)
      case atStart => exact ⟨0, 0, Nat.zero_le _, rfl, rfl, by simp⟩
      case round =>
        obtain ⟨k, a, hk, rfl, rfl, hrd⟩ := hrel
        have Hrd := Lib.hid hrd
        clear hrd
        by_cases hlt : k < s.size
        · have hdc := drop_cons s k hlt
          have Hdc := Lib.hid hdc
          clear hdc
          by_cases hbig : 144115188075855871 < a
          · go_wp2
            go_ret3
            exact ⟨by rw [Hr.out, Hrd.out, Hdc.out, Nm.rd, if_pos hbig]; rfl, rfl⟩
          · have Hj := Lib.hid (or_join7 a s[k] (by omega))
            have hbt := bits128 s[k]
            by_cases hc : s[k].toNat < 128
            · rw [decide_eq_true hc] at hbt
              go_wp2
              go_ret3
              exact ⟨by rw [Hr.out, Hrd.out, Hdc.out, Nm.rd, if_neg hbig, if_pos hc, rv]; exact ret_uv Hj.out (by omega), rfl⟩
            · rw [decide_eq_false hc] at hbt
              go_wp2
              go_round
              case rel => exact ⟨k + 1, a * 128 + s[k].toNat % 128, by omega, by go_num, by rw [Hj.out], by rw [Hrd.out, Hdc.out, Nm.rd, if_neg hbig, if_neg hc]⟩
              case measure => simp [intOf]; omega
        · have hdn : s.data.toList.drop k = [] := List.drop_of_length_le (by have := Lib.size_eq s; omega)
          have Hdn := Lib.hid hdn
          clear hdn
          go_wp2
          go_ret3
          exact ⟨by rw [Hr.out, Hrd.out, Hdn.out, Nm.rd]; rfl, rfl⟩

/-- A string's bytes copied over a row of as many cells, and the row taken as a string: what the two operations come to. -/
theorem copied (w : World) (g : Nat) (cur : Array Value) (s : ByteArray) (hg : w.heap[g]? = some (.cells cur 5 (0, 0))) (hsz : cur.size = s.size) (h0 : 0 < s.size) (hlim : s.size ≤ 140737488355328) :
    ∃ w2 w3, (Builtin.copy_ #[46, 9] 3 #[.slice (some ⟨g, 0, none⟩) s.size s.size, .string s]).run Try.prog w = .ok (.int .i64 s.size) w2 ∧
      (Builtin.unsafeString_ #[49, 3] 9 #[.pointer (some ⟨g, 0, none⟩), .int .i64 s.size]).run Try.prog w2 = .ok (.string s) w3 ∧ Below g w w3 := by
  obtain ⟨i0, hi, _, hz1, _⟩ := info_parts Try.infoByte
  have hbytes : (Lib.byteCells s.data.toList).length = s.size := by rw [Lib.byteCells_length, ← Lib.size_eq]
  have hcp := Lib.run_copy_row_string (P := Try.prog) w 46 9 3 5 g 0 s.size s.size s cur 5 Try.underlying46 (by rw [hi]; simp [hz1]) hg (Nat.le_refl _) (by omega)
  have hY : cur.toList.take 0 ++ Lib.byteCells s.data.toList ++ cur.toList.drop (0 + s.size) = Lib.byteCells s.data.toList := by
    rw [List.drop_of_length_le (by rw [Array.length_toList]; omega)]; simp
  rw [hY] at hcp
  have hg2 := setRow_heap w g cur (Lib.byteCells s.data.toList).toArray 5 (0, 0) hg
  have hus := Lib.run_unsafeString_row (P := Try.prog) (w.setRow g (Lib.byteCells s.data.toList).toArray) 49 3 9 5 Try.underlying49 (by simp [Program.cellsOf, hi, hz1]) g s.size
    (by unfold World.shape?; rw [hg2]; simp [hbytes]) s.data.toList (fun e => by rw [Lib.size_eq, e] at h0; simp at h0) (by rw [← Lib.size_eq]; exact Nat.le_refl _) (by rw [← Lib.size_eq]; omega)
    (fun j x hx => Lib.cells_of_row hg2 s.size j _ (by rw [List.toList_toArray, ← hbytes, List.take_length]; simp [Lib.byteCells, hx]))
  rw [← Lib.size_eq] at hus
  have hb : Below g w (w.setRow g (Lib.byteCells s.data.toList).toArray) := ⟨rfl, rfl, rfl, by simp, fun k hk => setRow_other _ _ _ _ (by omega)⟩
  exact ⟨_, _, hcp, hus, Lib.below_freeze hb (p := ⟨g, 0, none⟩) (Nat.le_refl _) _⟩

set_option maxHeartbeats 1000000 in
set_option maxRecDepth 100000 in
theorem stringsliteClone_any (s : ByteArray) (w : World) (hlim : s.size ≤ 140737488355328) :
    Calls Try.prog 27 #[.string s] w fun e w' => e = .returned (.string s) ∧ Below w.heap.size w w' := by
  by_cases h0 : s.size = 0
  · have hs : s = ⟨#[]⟩ := ByteArray.ext (Array.eq_empty_of_size_eq_zero h0)
    subst hs
    go_enter Try.func27, Try.ntmps27
    go_wp2
    go_ret
    exact ⟨rfl, Below.refl _ _⟩
  · obtain ⟨i0, hi, hz0, hz1, hz2⟩ := info_parts Try.infoByte
    have hz2' : i0.bytes * s.size ≤ 281474976710656 := by rw [hz2]; omega
    go_enter Try.func27, Try.ntmps27
    go_wp2_with (at_make; refine wpList_make_full _ rfl _ _ 46 rfl w.heap.size 5 i0 (.int .u8 0) 1 Try.underlying46 hi hz0 hz1 .i64 .i64 (s.size : Int) (s.size : Int) s.size rfl rfl rfl rfl hz2' (by simp only [maxLen]; omega) (Nat.le_refl _) ?_; intro w1 ho1 hg1; obtain ⟨w2, w3, hcp, hus, hb3⟩ := (by rcases ho1.2 with ⟨h, _⟩ | ⟨g, cap, cur, h, _, hg, _, _, hcs, _⟩; (cases h); (injection h with ha hn hc; injection ha with ha; injection ha with ha; subst ha; subst hc; exact copied w1 _ cur s hg (by omega) (by omega) hlim) : ∃ w2 w3, (Builtin.copy_ #[46, 9] 3 #[.slice (some ⟨w.heap.size, 0, none⟩) s.size s.size, .string s]).run Try.prog w1 = .ok (.int .i64 s.size) w2 ∧ (Builtin.unsafeString_ #[49, 3] 9 #[.pointer (some ⟨w.heap.size, 0, none⟩), .int .i64 s.size]).run Try.prog w2 = .ok (.string s) w3 ∧ Below w.heap.size w1 w3))
    go_ret
    exact ⟨rfl, ((Below.refl _ _).grown hg1 (Nat.le_refl _) (by simp)).trans hb3⟩

theorem stringsClone_any (s : ByteArray) (w : World) (hlim : s.size ≤ 140737488355328) :
    Calls Try.prog 24 #[.string s] w fun e w' => e = .returned (.string s) ∧ Below w.heap.size w w' := by
  have Hc := Lib.hid (stringsliteClone_any s w hlim)
  go_enter Try.func24, Try.ntmps24
  go_wp2_with (go_at_call 27; refine Hc.out.mono ?_; rintro e w' ⟨rfl, hb⟩)
  go_ret
  exact ⟨rfl, hb⟩

/-- What ReadS answers. -/
def rs (o : Option (List UInt8 × Nat)) : Value := match o with
  | some (l, k) => .tuple #[.string ⟨l.toArray⟩, .int .i64 (k : Int), .bool true]
  | none => .tuple #[.string ⟨#[]⟩, .int .i64 0, .bool false]

set_option maxHeartbeats 800000 in
theorem ReadS_any (s : ByteArray) (w : World) (hs : s.size ≤ 140737488355328) :
    Calls Try.prog 11 #[.string s] w fun e w' => e = .returned (rs (Nm.readS s.data.toList)) ∧ Below w.heap.size w w' := by
  have Hc := Lib.hid (ReadV_any s w (by omega))
  rcases hv : Nm.readV s.data.toList with _ | ⟨n, k⟩
  · have hr : Nm.readS s.data.toList = none := by unfold Nm.readS; rw [hv]
    have Hr := Lib.hid hr
    have Hv := Lib.hid hv
    clear hr hv
    go_enter Try.func11, Try.ntmps11
    go_wp2_with (go_at_call 10; refine Hc.out.mono ?_; rw [Hv.out, rv]; rintro e w' ⟨rfl, rfl⟩)
    go_ret3
    exact ⟨by rw [Hr.out]; rfl, Below.refl _ _⟩
  · obtain ⟨hn, hk1, hk2, hk3⟩ := Nm.readV_le hv
    rw [← Lib.size_eq] at hk2
    have Hv := Lib.hid hv
    clear hv hn
    by_cases hle : n ≤ s.size - k
    · have hr : Nm.readS s.data.toList = some ((s.data.toList.drop k).take n, k + n) := by
        unfold Nm.readS; rw [Hv.out]; simp only []; rw [if_pos (by rw [← Lib.size_eq]; exact hle)]
      have Hr := Lib.hid hr
      clear hr
      have hx : (s.extract k (k + n)).size ≤ 140737488355328 := by rw [ByteArray.size_extract]; omega
      have hxe : s.extract k (k + n) = ⟨((s.data.toList.drop k).take n).toArray⟩ := by rw [Lib.extract_eq]; congr 3; omega
      have Hxe := Lib.hid hxe
      clear hxe
      have Hcl := Lib.hid (stringsClone_any (s.extract k (k + n)) w hx)
      clear hx
      have hle' : ¬ ((s.size : Int) - k < (n : Int)) := by omega
      go_enter Try.func11, Try.ntmps11
      go_wp2_with (first | (go_at_call 10; refine Hc.out.mono ?_; rw [Hv.out, rv]; rintro e w' ⟨rfl, rfl⟩) | (go_at_call 24; refine Hcl.out.mono ?_; rintro e w' ⟨rfl, hb⟩))
      go_ret3
      exact ⟨by rw [Hr.out, rs, Hxe.out]; rfl, hb⟩
    · have hr : Nm.readS s.data.toList = none := by
        unfold Nm.readS; rw [Hv.out]; simp only []; rw [if_neg (by rw [← Lib.size_eq]; exact hle)]
      have Hr := Lib.hid hr
      clear hr
      have hle' : ((s.size : Int) - k < (n : Int)) := by omega
      go_enter Try.func11, Try.ntmps11
      go_wp2_with (go_at_call 10; refine Hc.out.mono ?_; rw [Hv.out, rv]; rintro e w' ⟨rfl, rfl⟩)
      go_ret3
      exact ⟨by rw [Hr.out]; rfl, Below.refl _ _⟩
end Go.Proofs.Ytnfghgkdedmphaa
