/-
  CmdKnown walked: the first loop. WRITTEN BY wip/tools/gen_lwknown.py.
-/
import Derived.Test.YtpdahbfjbgcmgaaSLwK
import Derived.Test.YtpdahbfjbgcmgaaSTailB
set_option linter.unusedSimpArgs false
set_option linter.unusedVariables false
namespace Go.Proofs.Ytpdahbfjbgcmgaa
open Go.RowKit
set_option linter.unusedVariables false
noncomputable def lkb0C : Code := ((Try.f3.body.bind (Tail.block 0)).getD .skip)
set_option maxRecDepth 100000 in
set_option maxHeartbeats 8000000 in
theorem lkb0 {c0 c1 c2 c3 c4 c5 c6 c7 c8 c9 c10 c11 c12 c13 c14 c15 c16 c17 c18 c19 c20 c21 c22 c23 c24 c25 c26 c30 c31 c32 c33 c34 c35 c36 c37 c38 c39 c40 c41 c42 c43 c44 c45 c46 c47 c48 c49 c50 c51 c52 c53 c54 c55 c56 c57 c58 c59 c60 c61 c62 c63 c64 c65 c66 c67 c68 c69 c70 c71 c72 c73 c74 c75 c76 c77 c78 c79 c80 c81 c82 c83 c84 c85 c86 c87 c88 c89 c90 c91 c92 c93 c94 c95 c96 c97 c98 c99 c100 c101 c102 c103 c104 c105 c106 c107 c108 c109 c110 c111 c112 c113 c114 c115 c116 c117 c118 c119 c120 c121 c122 c123 : Value} (w W3 : World) (gA gB g : Nat) (HS3 : Hid (KnS w W3 gA gB g)) (Q : Exit → Act → World → Prop)
    (hQ : ∀ (a' : Act) (w' : World), a'.tmps.size = 124 → a'.defers = [] → Below W3.heap.size W3 w' → Q .normal a' w') :
    Code.wp Try.prog lkb0C Q ⟨#[c0, c1, c2, c3, c4, c5, c6, c7, c8, c9, c10, c11, c12, c13, c14, c15, c16, c17, c18, c19, c20, c21, c22, c23, c24, c25, c26, .slice (some ⟨g, 0, none⟩) 8 8, .int .i64 8, .int .i64 0, c30, c31, c32, c33, c34, c35, c36, c37, c38, c39, c40, c41, c42, c43, c44, c45, c46, c47, c48, c49, c50, c51, c52, c53, c54, c55, c56, c57, c58, c59, c60, c61, c62, c63, c64, c65, c66, c67, c68, c69, c70, c71, c72, c73, c74, c75, c76, c77, c78, c79, c80, c81, c82, c83, c84, c85, c86, c87, c88, c89, c90, c91, c92, c93, c94, c95, c96, c97, c98, c99, c100, c101, c102, c103, c104, c105, c106, c107, c108, c109, c110, c111, c112, c113, c114, c115, c116, c117, c118, c119, c120, c121, c122, c123], []⟩ W3 := by
  have HQ := Lib.hid hQ
  clear hQ
  conv => arg 2; whnf
  go_wp2_with fail
  go_loopw [29] (fun i wr => ∃ k : Nat, k ≤ 8 ∧ i = .int .i64 (k : Int) ∧ Below W3.heap.size W3 wr) (fun i _ => 8 - (intOf i).toNat)
  case atStart => exact ⟨0, by omega, rfl, Below.refl _ _⟩
  case round =>
    obtain ⟨k, hk, rfl, hbk⟩ := hrel
    have Hbk := Lib.hid hbk
    clear hbk
    by_cases hlt : k < 8
    · have hlb : k < (badC gA gB).length := by show k < 8; exact hlt
      obtain ⟨x, he⟩ : ∃ x, x = (badC gA gB)[k]'hlb := ⟨_, rfl⟩
      have hmem : x ∈ badC gA gB := by rw [he]; exact List.getElem_mem hlb
      obtain ⟨hmay, ⟨hfit, hsh⟩, hlie⟩ := badC_ok gA gB W3 HS3.out.lA HS3.out.lB x hmem
      have hcell : ∀ j u, j < 12 → (cmdC x.1 x.2.1 x.2.2)[j]? = some u → wr.cell? ⟨g, k * 12 + j, none⟩ = some u := fun j u hj hu => by
        refine later Hbk.out (HS3.out.cells k j u hlt hj ?_)
        rw [cc_at (badC gA gB) k hlb j hj, ← he]; exact hu
      obtain ⟨c, A, cap⟩ := x
      simp only at hmay hfit hsh hlie hcell
      have hW : ∀ W, Lies W A (pc c.parts) → Calls Try.prog 16 #[.agg #[.int .u8 (c.op : Int), .int .u64 (c.ses : Int), .int .u64 (c.seq : Int), .string c.key, .string c.val, .string c.exp, .string c.frm, .string c.tto, .int .u8 (c.lim : Int), .int .u64 (c.lease : Int), .int .u64 (c.ttl : Int), .slice A c.parts.length cap]] W fun e w' => e = .returned (.string ⟨#[]⟩) ∧ Below W.heap.size W w' := fun W hl => by
        have := cmdWrite_any c hfit hsh A cap W hl
        unfold RetS Cm.write at this
        rw [hmay] at this
        exact this
      have HWk := Lib.hid hW
      have HL := Lib.hid (hlie.below Hbk.out)
      have c0 : wr.cell? ⟨g, k * 12, none⟩ = some (.int .u8 (c.op : Int)) := hcell 0 _ (by omega) rfl
      have c1 : wr.cell? ⟨g, k * 12 + 1, none⟩ = some (.int .u64 (c.ses : Int)) := hcell 1 _ (by omega) rfl
      have c2 : wr.cell? ⟨g, k * 12 + 2, none⟩ = some (.int .u64 (c.seq : Int)) := hcell 2 _ (by omega) rfl
      have c3 : wr.cell? ⟨g, k * 12 + 3, none⟩ = some (.string c.key) := hcell 3 _ (by omega) rfl
      have c4 : wr.cell? ⟨g, k * 12 + 4, none⟩ = some (.string c.val) := hcell 4 _ (by omega) rfl
      have c5 : wr.cell? ⟨g, k * 12 + 5, none⟩ = some (.string c.exp) := hcell 5 _ (by omega) rfl
      have c6 : wr.cell? ⟨g, k * 12 + 6, none⟩ = some (.string c.frm) := hcell 6 _ (by omega) rfl
      have c7 : wr.cell? ⟨g, k * 12 + 7, none⟩ = some (.string c.tto) := hcell 7 _ (by omega) rfl
      have c8 : wr.cell? ⟨g, k * 12 + 8, none⟩ = some (.int .u8 (c.lim : Int)) := hcell 8 _ (by omega) rfl
      have c9 : wr.cell? ⟨g, k * 12 + 9, none⟩ = some (.int .u64 (c.lease : Int)) := hcell 9 _ (by omega) rfl
      have c10 : wr.cell? ⟨g, k * 12 + 10, none⟩ = some (.int .u64 (c.ttl : Int)) := hcell 10 _ (by omega) rfl
      have c11 : wr.cell? ⟨g, k * 12 + 11, none⟩ = some (.slice A c.parts.length cap) := hcell 11 _ (by omega) rfl
      have F := cmdF c A cap
      have hst := storeCmd (cmdC c A cap) F.size F.one
      unfold cmdC at hst
      have k0 : (0 : Int) ≤ (k : Int) := by omega
      have k1 : (k : Int) < 8 := by omega
      clear he hmem hlb hfit hsh hmay hlie hcell hW F
      go_wp2_with fail
      refine (HWk.out _ (HL.out.below (bnew (Below.refl _ _) _))).mono ?_
      rintro r w5 ⟨rfl, hb5⟩
      have HB5 := Lib.hid (bnext (bnew Hbk.out (.cells #[.int .u8 (c.op : Int), .int .u64 (c.ses : Int), .int .u64 (c.seq : Int), .string c.key, .string c.val, .string c.exp, .string c.frm, .string c.tto, .int .u8 (c.lim : Int), .int .u64 (c.lease : Int), .int .u64 (c.ttl : Int), .slice A c.parts.length cap] 27)) hb5)
      clear hb5 c0 c1 c2 c3 c4 c5 c6 c7 c8 c9 c10 c11
      go_wp2_with fail
      go_roundw
      case rel => exact ⟨k + 1, by omega, by go_num, HB5.out⟩
      case measure => simp [intOf]; omega
    · obtain rfl : k = 8 := by omega
      have HB := Lib.hid Hbk.out
      clear HS3 Hbk
      go_wp2_with fail
      exact HQ.out _ _ rfl rfl HB.out
end Go.Proofs.Ytpdahbfjbgcmgaa
