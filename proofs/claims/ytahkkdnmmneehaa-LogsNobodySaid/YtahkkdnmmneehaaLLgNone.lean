/-
  Logs: the methods at what is no log: a nil pointer, or one that New did not make.
-/
import Derived.Test.YtahkkdnmmneehaaLLgCutW
import Derived.Test.YtahkkdnmmneehaaLLgPutW
set_option linter.unusedSimpArgs false
set_option linter.unusedVariables false
namespace Go.Proofs.Ytahkkdnmmneehaa
open Go.RowKit
/-- v is no log, from the world W on. -/
def NoLog (W : World) (v : Value) : Prop := ∀ W', Below W.heap.size W W' → Calls Try.prog 43 #[v] W' fun e w' => e = .returned (.bool false) ∧ w' = W'
theorem noLog_nil (W : World) : NoLog W (.pointer none) := fun W' _ => by
  go_enter Try.func43, Try.ntmps43
  go_wp2_with fail
  go_ret
  exact ⟨rfl, rfl⟩
theorem noLog_unmade (W : World) (p : Nat) (hp : p < W.heap.size) (h : W.cell? ⟨p, 0, none⟩ = some (.bool false)) : NoLog W (.pointer (some ⟨p, 0, none⟩)) := fun W' hb => by
  have c0 : W'.cell? ⟨p, 0, none⟩ = some (.bool false) := later hb h
  clear h hb
  go_enter Try.func43, Try.ntmps43
  go_wp2_with fail
  go_ret
  exact ⟨rfl, rfl⟩
section
variable {W : World} {v : Value}
set_option maxRecDepth 100000 in
theorem first_no (h : NoLog W v) : Calls Try.prog 21 #[v] W (RetL (.tuple #[.int .u64 0, .int .u64 0]) W) := by
  have HM := Lib.hid (h W (Below.refl _ _))
  clear h
  go_enter Try.func21, Try.ntmps21
  go_wp2_with (go_at_call 43; refine HM.out.mono ?_; rintro r w' ⟨rfl, rfl⟩)
  go_ret2
  exact ⟨rfl, Below.refl _ _⟩
set_option maxRecDepth 100000 in
theorem last_no (h : NoLog W v) : Calls Try.prog 22 #[v] W (RetL (.tuple #[.int .u64 0, .int .u64 0]) W) := by
  have HM := Lib.hid (h W (Below.refl _ _))
  clear h
  go_enter Try.func22, Try.ntmps22
  go_wp2_with (go_at_call 43; refine HM.out.mono ?_; rintro r w' ⟨rfl, rfl⟩)
  go_ret2
  exact ⟨rfl, Below.refl _ _⟩
set_option maxRecDepth 100000 in
theorem members_no (h : NoLog W v) : Calls Try.prog 23 #[v] W (RetL (.tuple #[.int .u8 0, .int .u64 0]) W) := by
  have HM := Lib.hid (h W (Below.refl _ _))
  clear h
  go_enter Try.func23, Try.ntmps23
  go_wp2_with (go_at_call 43; refine HM.out.mono ?_; rintro r w' ⟨rfl, rfl⟩)
  go_ret2
  exact ⟨rfl, Below.refl _ _⟩
set_option maxRecDepth 100000 in
theorem term_no (h : NoLog W v) (i : Nat) : Calls Try.prog 24 #[v, .int .u64 (i : Int)] W (RetL (.tuple #[.int .u64 0, .bool false]) W) := by
  have HM := Lib.hid (h W (Below.refl _ _))
  clear h
  go_enter Try.func24, Try.ntmps24
  go_wp2_with (go_at_call 43; refine HM.out.mono ?_; rintro r w' ⟨rfl, rfl⟩)
  go_ret2
  exact ⟨rfl, Below.refl _ _⟩
set_option maxRecDepth 100000 in
theorem from_no (h : NoLog W v) (i m : Nat) : Calls Try.prog 25 #[v, .int .u64 (i : Int), .int .i64 (m : Int)] W (RetL (.slice none 0 0) W) := by
  have HM := Lib.hid (h W (Below.refl _ _))
  clear h
  go_enter Try.func25, Try.ntmps25
  go_wp2_with (go_at_call 43; refine HM.out.mono ?_; rintro r w' ⟨rfl, rfl⟩)
  go_ret
  exact ⟨rfl, Below.refl _ _⟩
set_option maxRecDepth 100000 in
theorem membersAt_no (h : NoLog W v) (i : Nat) : Calls Try.prog 26 #[v, .int .u64 (i : Int)] W (RetL (.int .u8 0) W) := by
  have HM := Lib.hid (h W (Below.refl _ _))
  clear h
  go_enter Try.func26, Try.ntmps26
  go_wp2_with (go_at_call 43; refine HM.out.mono ?_; rintro r w' ⟨rfl, rfl⟩)
  go_ret
  exact ⟨rfl, Below.refl _ _⟩
set_option maxRecDepth 100000 in
theorem asNew_no (h : NoLog W v) (i t : Nat) : Calls Try.prog 27 #[v, .int .u64 (i : Int), .int .u64 (t : Int)] W (RetL (.bool false) W) := by
  have HM := Lib.hid (h W (Below.refl _ _))
  clear h
  go_enter Try.func27, Try.ntmps27
  go_wp2_with (go_at_call 43; refine HM.out.mono ?_; rintro r w' ⟨rfl, rfl⟩)
  go_ret
  exact ⟨rfl, Below.refl _ _⟩
set_option maxRecDepth 100000 in
theorem cut_no (h : NoLog W v) (i : Nat) : Calls Try.prog 30 #[v, .int .u64 (i : Int)] W (RetL (.int .i64 4) W) := by
  have HM := Lib.hid (h W (Below.refl _ _))
  clear h
  go_enter Try.func30, Try.ntmps30
  go_wp2_with (go_at_call 43; refine HM.out.mono ?_; rintro r w' ⟨rfl, rfl⟩)
  go_ret
  exact ⟨rfl, Below.refl _ _⟩
set_option maxRecDepth 100000 in
theorem reset_no (h : NoLog W v) (i t m : Nat) : Calls Try.prog 19 #[v, .int .u64 (i : Int), .int .u64 (t : Int), .int .u8 (m : Int)] W (RetL (.tuple #[]) W) := by
  have HM := Lib.hid (h W (Below.refl _ _))
  clear h
  go_enter Try.func19, Try.ntmps19
  go_wp2_with (go_at_call 43; refine HM.out.mono ?_; rintro r w' ⟨rfl, rfl⟩)
  go_end0
  exact ⟨rfl, Below.refl _ _⟩
set_option maxRecDepth 100000 in
theorem put_no (h : NoLog W v) (i t n c : Nat) (A : Option Addr) : Calls Try.prog 20 #[v, .int .u64 (i : Int), .int .u64 (t : Int), .slice A n c] W (RetL (.tuple #[.bool false, .int .u64 0, .slice none 0 0]) W) := by
  have HM := Lib.hid (h W (Below.refl _ _))
  clear h
  go_enter Try.func20, Try.ntmps20
  go_wp2_with (go_at_call 43; refine HM.out.mono ?_; rintro r w' ⟨rfl, rfl⟩)
  refine bodyPost_ret (results_three (P := Try.prog) (fn := Try.f20) rfl _ _) rfl ?_
  exact ⟨rfl, Below.refl _ _⟩
set_option maxRecDepth 100000 in
theorem add_no (h : NoLog W v) (X : Array Value) : Calls Try.prog 28 #[v, .agg X] W (RetL (.agg (entC En.zero)) W) := by
  have H := Lib.hid h
  have HZ := sizeEntL En.zero
  have HO := (entF En.zero).one
  have hZs : (entC En.zero).size = 13 := rfl
  clear h
  go_enter Try.func28, Try.ntmps28
  go_upto_region 1 with (fail)
  refine forget (fun V => Rw V (W.heap.size + 1) (entC En.zero) 62 ∧ Bl W V ∧ W.heap.size ≤ W.heap.size + 1) ⟨by have := Rw.new (W.alloc (.cells X 62)) (entC En.zero) 62; rw [World.size_alloc] at this; exact this, ((Bl.refl W).alloc _).alloc _, by omega⟩ ?_
  intro W1 H1
  generalize W.heap.size + 1 = g at H1 ⊢
  have HK := Lib.hid H1
  have HM := Lib.hid (H.out W1 H1.2.1)
  clear H1
  obtain ⟨Y, hY⟩ : ∃ Y, Y = entC En.zero := ⟨_, rfl⟩
  have HY := Lib.hid hY
  go_wp2_with (first
    | (refine wpList_store_sub rfl 62 _ _ rfl g 0 rfl 62 (entC En.zero) (entC En.zero) rfl HK.out.1 (by rw [hZs]; decide) HZ HO ?_)
    | (go_at_call 43; refine HM.out.mono ?_; rintro r w' ⟨rfl, rfl⟩))
  rw [← hY] at HZ HK ⊢
  refine bodyPost_ret (results_cell_row (P := Try.prog) (fn := Try.f28) rfl _ _ g 62 Y (0, 0) _ rfl (HK.out.1.over rfl) Try.underlying62 rfl HZ) rfl ?_
  exact ⟨rfl, HK.out.2.1.puts HK.out.2.2 _ _⟩
end
end Go.Proofs.Ytahkkdnmmneehaa
