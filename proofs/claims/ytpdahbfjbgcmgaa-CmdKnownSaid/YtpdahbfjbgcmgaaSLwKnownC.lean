/-
  CmdKnown walked: behind the second loop. WRITTEN BY wip/tools/gen_lwknown.py.
-/
import Derived.Test.YtpdahbfjbgcmgaaSLwK
import Derived.Test.YtpdahbfjbgcmgaaSLwKnownR
import Derived.Test.YtpdahbfjbgcmgaaSTail
import Derived.Test.YtpdahbfjbgcmgaaSLaw
set_option linter.unusedSimpArgs false
set_option linter.unusedVariables false
namespace Go.Proofs.Ytpdahbfjbgcmgaa
open Go.RowKit
set_option linter.unusedVariables false
noncomputable def lk19C : Code := ((Try.f3.body.bind (Tail.find 19)).getD .skip)
set_option maxRecDepth 100000 in
set_option maxHeartbeats 8000000 in
theorem lk19 {c0 c1 c2 c3 c4 c5 c6 c7 c8 c9 c10 c11 c12 c13 c14 c15 c16 c17 c18 c19 c20 c21 c22 c23 c24 c25 c26 c27 c28 c29 c30 c31 c32 c33 c34 c35 c36 c37 c38 c39 c40 c41 c42 c43 c44 c45 c46 c47 c48 c49 c50 c51 c52 c53 c54 c55 c56 c57 c58 c59 c60 c61 c62 c63 c64 c65 c66 c67 c68 c69 c70 c71 c72 c73 c74 c75 c76 c77 c78 c79 c80 c81 c82 c83 c84 c85 c86 c87 c88 c89 c90 c91 c92 c93 c94 c95 c96 c97 c98 c99 c100 c101 c102 c103 c104 c105 c106 c107 c108 c109 c110 c111 c112 c113 c114 c115 c116 c117 c118 c119 c120 c121 c122 c123 : Value} (w W0 : World) (hb0 : Below w.heap.size w W0) :
    Code.wp Try.prog lk19C (bodyPost Try.prog Try.f3 (fun e w' => e = .returned (.bool true) ∧ Below w.heap.size w w')) ⟨#[c0, c1, c2, c3, c4, c5, c6, c7, c8, c9, c10, c11, c12, c13, c14, c15, c16, c17, c18, c19, c20, c21, c22, c23, c24, c25, c26, c27, c28, c29, c30, c31, c32, c33, c34, c35, c36, c37, c38, c39, c40, c41, c42, c43, c44, c45, c46, c47, c48, c49, c50, c51, c52, c53, c54, c55, c56, c57, c58, c59, c60, c61, c62, c63, c64, c65, c66, c67, c68, c69, c70, c71, c72, c73, c74, c75, c76, c77, c78, c79, c80, c81, c82, c83, c84, c85, c86, c87, c88, c89, c90, c91, c92, c93, c94, c95, c96, c97, c98, c99, c100, c101, c102, c103, c104, c105, c106, c107, c108, c109, c110, c111, c112, c113, c114, c115, c116, c117, c118, c119, c120, c121, c122, c123], []⟩ W0 := by
  conv => arg 2; whnf
  have HB := Lib.hid hb0
  clear hb0
  obtain ⟨i0, hi, hz0, hz1, hz2⟩ := info_parts Try.infoByte
  go_wp2_with (at_make; refine wpList_make_full _ rfl _ _ 36 rfl W0.heap.size 5 i0 (.int .u8 0) 1 Try.underlying36 hi hz0 hz1 .i64 .i64 65 65 65 rfl rfl rfl rfl (by rw [hz2]; decide) (by simp only [maxLen]; decide) (Nat.le_refl _) ?_; intro w12 ho12 hg12; have hcv := long_conv ho12; have HB12 := Lib.hid (HB.out.grown hg12 HB.out.size (by simp)); clear ho12 hg12)
  go_upto_region 20 with (fail)
  have hL : long65.size = 65 := rfl
  have k1 : Cm.oversize ⟨0, 0, 0, long65.extract 0 16, long65.extract 0 64, long65.extract 0 64, long65.extract 0 16, long65.extract 0 16, 0, 0, 0, []⟩ = false := by decide +kernel
  have k2 : Cm.oversize ⟨0, 0, 0, ⟨#[]⟩, ⟨#[]⟩, ⟨#[]⟩, ⟨#[]⟩, long65.extract 0 17, 0, 0, 0, []⟩ = true := by decide +kernel
  have k3 : Cm.oversize ⟨0, 0, 0, ⟨#[]⟩, ⟨#[]⟩, long65, ⟨#[]⟩, ⟨#[]⟩, 0, 0, 0, []⟩ = true := by decide +kernel
  have k4 : Cm.oversize ⟨0, 0, 0, ⟨#[]⟩, ⟨#[]⟩, ⟨#[]⟩, ⟨#[]⟩, ⟨#[]⟩, 0, 0, 0, [⟨0, ⟨#[]⟩, ⟨#[]⟩⟩, ⟨0, long65.extract 0 17, ⟨#[]⟩⟩]⟩ = true := by decide +kernel
  have h1 := fun W => cmdOver_any none 0 W (.inl rfl) (by simp) (c := ⟨0, 0, 0, long65.extract 0 16, long65.extract 0 64, long65.extract 0 64, long65.extract 0 16, long65.extract 0 16, 0, 0, 0, []⟩)
  have h2 := fun W => cmdOver_any none 0 W (.inl rfl) (by simp) (c := ⟨0, 0, 0, ⟨#[]⟩, ⟨#[]⟩, ⟨#[]⟩, ⟨#[]⟩, long65.extract 0 17, 0, 0, 0, []⟩)
  have h3 := fun W => cmdOver_any none 0 W (.inl rfl) (by simp) (c := ⟨0, 0, 0, ⟨#[]⟩, ⟨#[]⟩, long65, ⟨#[]⟩, ⟨#[]⟩, 0, 0, 0, []⟩)
  have h4 := fun W r hl => cmdOver_any (some ⟨r, 0, none⟩) 2 W hl (by simp) (c := ⟨0, 0, 0, ⟨#[]⟩, ⟨#[]⟩, ⟨#[]⟩, ⟨#[]⟩, ⟨#[]⟩, 0, 0, 0, [⟨0, ⟨#[]⟩, ⟨#[]⟩⟩, ⟨0, long65.extract 0 17, ⟨#[]⟩⟩]⟩)
  rw [k1] at h1
  rw [k2] at h2
  rw [k3] at h3
  simp only [k4] at h4
  refine lwk20 long65 (long65.extract 0 16) (long65.extract 0 64) (long65.extract 0 17) _ hL rfl rfl rfl h1 h2 h3 h4 _ ?_
  clear h1 h2 h3 h4 k1 k2 k3 k4 hcv hL
  intro u1 u2 W13 hb13
  have HB13 := Lib.hid (bnext HB12.out hb13)
  clear hb13
  generalize long65 = L
  generalize L.extract 0 16 = x1
  generalize L.extract 0 64 = x2
  generalize L.extract 0 17 = x3
  have HA8 := Lib.hid (fun W => asks_any 8 (by decide) W)
  have HA11 := Lib.hid (fun W => asks_any 11 (by decide) W)
  have HA7 := Lib.hid (fun W => asks_any 7 (by decide) W)
  have HA12 := Lib.hid (fun W => asks_any 12 (by decide) W)
  have hr := fun W => cmdWriteRes_any Rs.zero zero_rfits (by decide) (by decide) (fun p hp => by cases hp) none 0 W (.inl rfl)
  unfold RetS at hr
  rw [show Rs.bytes Rs.zero = [0, 0, 0, 0] by decide +kernel] at hr
  have HR := Lib.hid hr
  have HAw := Lib.hid cmdAwake_any
  clear hr
  go_wp2_with fail
  refine (HA8.out _).mono ?_
  rintro e w1 ⟨rfl, rfl⟩
  go_wp2_with fail
  refine (HA11.out _).mono ?_
  rintro e w1 ⟨rfl, rfl⟩
  go_wp2_with fail
  refine (HA7.out _).mono ?_
  rintro e w1 ⟨rfl, rfl⟩
  go_wp2_with fail
  refine (HA12.out _).mono ?_
  rintro e w1 ⟨rfl, rfl⟩
  go_wp2_with fail
  refine (HR.out _).mono ?_
  rintro e w14 ⟨rfl, hb14⟩
  have HB14 := Lib.hid (bnext HB13.out hb14)
  clear hb14
  go_wp2_with fail
  refine (HAw.out _).mono ?_
  rintro e w15 ⟨rfl, hb15⟩
  have HB15 := Lib.hid (bnext HB14.out hb15)
  clear hb15
  go_wp2_with fail
  go_ret
  exact ⟨rfl, HB15.out⟩
end Go.Proofs.Ytpdahbfjbgcmgaa
