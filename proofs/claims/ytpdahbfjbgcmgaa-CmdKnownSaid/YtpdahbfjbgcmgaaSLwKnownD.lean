/-
  CmdKnown walked: the second loop. WRITTEN BY wip/tools/gen_lwknown.py.
-/
import Derived.Test.YtpdahbfjbgcmgaaSLwKnownC
import Derived.Test.YtpdahbfjbgcmgaaSTailB
set_option linter.unusedSimpArgs false
set_option linter.unusedVariables false
namespace Go.Proofs.Ytpdahbfjbgcmgaa
open Go.RowKit
set_option linter.unusedVariables false
theorem cons_of {l : List Value} {n : Nat} (h : l.length = n + 1) : ∃ c m, l = c :: m ∧ m.length = n := by
  rcases l with _ | ⟨c, m⟩
  · simp at h
  · exact ⟨c, m, rfl, by simpa using h⟩
set_option maxRecDepth 100000 in
set_option maxHeartbeats 8000000 in
theorem lk19a (w : World) (a : Act) (W0 : World) (hs : a.tmps.size = 124) (hd : a.defers = []) (hb0 : Below w.heap.size w W0) :
    Code.wp Try.prog lk19C (bodyPost Try.prog Try.f3 (fun e w' => e = .returned (.bool true) ∧ Below w.heap.size w w')) a W0 := by
  obtain ⟨⟨l⟩, d⟩ := a
  simp only at hd
  subst hd
  have h0 : l.length = 124 := hs
  clear hs
  obtain ⟨c0, l0, rfl, h1⟩ := cons_of (n := 123) h0
  obtain ⟨c1, l1, rfl, h2⟩ := cons_of (n := 122) h1
  obtain ⟨c2, l2, rfl, h3⟩ := cons_of (n := 121) h2
  obtain ⟨c3, l3, rfl, h4⟩ := cons_of (n := 120) h3
  obtain ⟨c4, l4, rfl, h5⟩ := cons_of (n := 119) h4
  obtain ⟨c5, l5, rfl, h6⟩ := cons_of (n := 118) h5
  obtain ⟨c6, l6, rfl, h7⟩ := cons_of (n := 117) h6
  obtain ⟨c7, l7, rfl, h8⟩ := cons_of (n := 116) h7
  obtain ⟨c8, l8, rfl, h9⟩ := cons_of (n := 115) h8
  obtain ⟨c9, l9, rfl, h10⟩ := cons_of (n := 114) h9
  obtain ⟨c10, l10, rfl, h11⟩ := cons_of (n := 113) h10
  obtain ⟨c11, l11, rfl, h12⟩ := cons_of (n := 112) h11
  obtain ⟨c12, l12, rfl, h13⟩ := cons_of (n := 111) h12
  obtain ⟨c13, l13, rfl, h14⟩ := cons_of (n := 110) h13
  obtain ⟨c14, l14, rfl, h15⟩ := cons_of (n := 109) h14
  obtain ⟨c15, l15, rfl, h16⟩ := cons_of (n := 108) h15
  obtain ⟨c16, l16, rfl, h17⟩ := cons_of (n := 107) h16
  obtain ⟨c17, l17, rfl, h18⟩ := cons_of (n := 106) h17
  obtain ⟨c18, l18, rfl, h19⟩ := cons_of (n := 105) h18
  obtain ⟨c19, l19, rfl, h20⟩ := cons_of (n := 104) h19
  obtain ⟨c20, l20, rfl, h21⟩ := cons_of (n := 103) h20
  obtain ⟨c21, l21, rfl, h22⟩ := cons_of (n := 102) h21
  obtain ⟨c22, l22, rfl, h23⟩ := cons_of (n := 101) h22
  obtain ⟨c23, l23, rfl, h24⟩ := cons_of (n := 100) h23
  obtain ⟨c24, l24, rfl, h25⟩ := cons_of (n := 99) h24
  obtain ⟨c25, l25, rfl, h26⟩ := cons_of (n := 98) h25
  obtain ⟨c26, l26, rfl, h27⟩ := cons_of (n := 97) h26
  obtain ⟨c27, l27, rfl, h28⟩ := cons_of (n := 96) h27
  obtain ⟨c28, l28, rfl, h29⟩ := cons_of (n := 95) h28
  obtain ⟨c29, l29, rfl, h30⟩ := cons_of (n := 94) h29
  obtain ⟨c30, l30, rfl, h31⟩ := cons_of (n := 93) h30
  obtain ⟨c31, l31, rfl, h32⟩ := cons_of (n := 92) h31
  obtain ⟨c32, l32, rfl, h33⟩ := cons_of (n := 91) h32
  obtain ⟨c33, l33, rfl, h34⟩ := cons_of (n := 90) h33
  obtain ⟨c34, l34, rfl, h35⟩ := cons_of (n := 89) h34
  obtain ⟨c35, l35, rfl, h36⟩ := cons_of (n := 88) h35
  obtain ⟨c36, l36, rfl, h37⟩ := cons_of (n := 87) h36
  obtain ⟨c37, l37, rfl, h38⟩ := cons_of (n := 86) h37
  obtain ⟨c38, l38, rfl, h39⟩ := cons_of (n := 85) h38
  obtain ⟨c39, l39, rfl, h40⟩ := cons_of (n := 84) h39
  obtain ⟨c40, l40, rfl, h41⟩ := cons_of (n := 83) h40
  obtain ⟨c41, l41, rfl, h42⟩ := cons_of (n := 82) h41
  obtain ⟨c42, l42, rfl, h43⟩ := cons_of (n := 81) h42
  obtain ⟨c43, l43, rfl, h44⟩ := cons_of (n := 80) h43
  obtain ⟨c44, l44, rfl, h45⟩ := cons_of (n := 79) h44
  obtain ⟨c45, l45, rfl, h46⟩ := cons_of (n := 78) h45
  obtain ⟨c46, l46, rfl, h47⟩ := cons_of (n := 77) h46
  obtain ⟨c47, l47, rfl, h48⟩ := cons_of (n := 76) h47
  obtain ⟨c48, l48, rfl, h49⟩ := cons_of (n := 75) h48
  obtain ⟨c49, l49, rfl, h50⟩ := cons_of (n := 74) h49
  obtain ⟨c50, l50, rfl, h51⟩ := cons_of (n := 73) h50
  obtain ⟨c51, l51, rfl, h52⟩ := cons_of (n := 72) h51
  obtain ⟨c52, l52, rfl, h53⟩ := cons_of (n := 71) h52
  obtain ⟨c53, l53, rfl, h54⟩ := cons_of (n := 70) h53
  obtain ⟨c54, l54, rfl, h55⟩ := cons_of (n := 69) h54
  obtain ⟨c55, l55, rfl, h56⟩ := cons_of (n := 68) h55
  obtain ⟨c56, l56, rfl, h57⟩ := cons_of (n := 67) h56
  obtain ⟨c57, l57, rfl, h58⟩ := cons_of (n := 66) h57
  obtain ⟨c58, l58, rfl, h59⟩ := cons_of (n := 65) h58
  obtain ⟨c59, l59, rfl, h60⟩ := cons_of (n := 64) h59
  obtain ⟨c60, l60, rfl, h61⟩ := cons_of (n := 63) h60
  obtain ⟨c61, l61, rfl, h62⟩ := cons_of (n := 62) h61
  obtain ⟨c62, l62, rfl, h63⟩ := cons_of (n := 61) h62
  obtain ⟨c63, l63, rfl, h64⟩ := cons_of (n := 60) h63
  obtain ⟨c64, l64, rfl, h65⟩ := cons_of (n := 59) h64
  obtain ⟨c65, l65, rfl, h66⟩ := cons_of (n := 58) h65
  obtain ⟨c66, l66, rfl, h67⟩ := cons_of (n := 57) h66
  obtain ⟨c67, l67, rfl, h68⟩ := cons_of (n := 56) h67
  obtain ⟨c68, l68, rfl, h69⟩ := cons_of (n := 55) h68
  obtain ⟨c69, l69, rfl, h70⟩ := cons_of (n := 54) h69
  obtain ⟨c70, l70, rfl, h71⟩ := cons_of (n := 53) h70
  obtain ⟨c71, l71, rfl, h72⟩ := cons_of (n := 52) h71
  obtain ⟨c72, l72, rfl, h73⟩ := cons_of (n := 51) h72
  obtain ⟨c73, l73, rfl, h74⟩ := cons_of (n := 50) h73
  obtain ⟨c74, l74, rfl, h75⟩ := cons_of (n := 49) h74
  obtain ⟨c75, l75, rfl, h76⟩ := cons_of (n := 48) h75
  obtain ⟨c76, l76, rfl, h77⟩ := cons_of (n := 47) h76
  obtain ⟨c77, l77, rfl, h78⟩ := cons_of (n := 46) h77
  obtain ⟨c78, l78, rfl, h79⟩ := cons_of (n := 45) h78
  obtain ⟨c79, l79, rfl, h80⟩ := cons_of (n := 44) h79
  obtain ⟨c80, l80, rfl, h81⟩ := cons_of (n := 43) h80
  obtain ⟨c81, l81, rfl, h82⟩ := cons_of (n := 42) h81
  obtain ⟨c82, l82, rfl, h83⟩ := cons_of (n := 41) h82
  obtain ⟨c83, l83, rfl, h84⟩ := cons_of (n := 40) h83
  obtain ⟨c84, l84, rfl, h85⟩ := cons_of (n := 39) h84
  obtain ⟨c85, l85, rfl, h86⟩ := cons_of (n := 38) h85
  obtain ⟨c86, l86, rfl, h87⟩ := cons_of (n := 37) h86
  obtain ⟨c87, l87, rfl, h88⟩ := cons_of (n := 36) h87
  obtain ⟨c88, l88, rfl, h89⟩ := cons_of (n := 35) h88
  obtain ⟨c89, l89, rfl, h90⟩ := cons_of (n := 34) h89
  obtain ⟨c90, l90, rfl, h91⟩ := cons_of (n := 33) h90
  obtain ⟨c91, l91, rfl, h92⟩ := cons_of (n := 32) h91
  obtain ⟨c92, l92, rfl, h93⟩ := cons_of (n := 31) h92
  obtain ⟨c93, l93, rfl, h94⟩ := cons_of (n := 30) h93
  obtain ⟨c94, l94, rfl, h95⟩ := cons_of (n := 29) h94
  obtain ⟨c95, l95, rfl, h96⟩ := cons_of (n := 28) h95
  obtain ⟨c96, l96, rfl, h97⟩ := cons_of (n := 27) h96
  obtain ⟨c97, l97, rfl, h98⟩ := cons_of (n := 26) h97
  obtain ⟨c98, l98, rfl, h99⟩ := cons_of (n := 25) h98
  obtain ⟨c99, l99, rfl, h100⟩ := cons_of (n := 24) h99
  obtain ⟨c100, l100, rfl, h101⟩ := cons_of (n := 23) h100
  obtain ⟨c101, l101, rfl, h102⟩ := cons_of (n := 22) h101
  obtain ⟨c102, l102, rfl, h103⟩ := cons_of (n := 21) h102
  obtain ⟨c103, l103, rfl, h104⟩ := cons_of (n := 20) h103
  obtain ⟨c104, l104, rfl, h105⟩ := cons_of (n := 19) h104
  obtain ⟨c105, l105, rfl, h106⟩ := cons_of (n := 18) h105
  obtain ⟨c106, l106, rfl, h107⟩ := cons_of (n := 17) h106
  obtain ⟨c107, l107, rfl, h108⟩ := cons_of (n := 16) h107
  obtain ⟨c108, l108, rfl, h109⟩ := cons_of (n := 15) h108
  obtain ⟨c109, l109, rfl, h110⟩ := cons_of (n := 14) h109
  obtain ⟨c110, l110, rfl, h111⟩ := cons_of (n := 13) h110
  obtain ⟨c111, l111, rfl, h112⟩ := cons_of (n := 12) h111
  obtain ⟨c112, l112, rfl, h113⟩ := cons_of (n := 11) h112
  obtain ⟨c113, l113, rfl, h114⟩ := cons_of (n := 10) h113
  obtain ⟨c114, l114, rfl, h115⟩ := cons_of (n := 9) h114
  obtain ⟨c115, l115, rfl, h116⟩ := cons_of (n := 8) h115
  obtain ⟨c116, l116, rfl, h117⟩ := cons_of (n := 7) h116
  obtain ⟨c117, l117, rfl, h118⟩ := cons_of (n := 6) h117
  obtain ⟨c118, l118, rfl, h119⟩ := cons_of (n := 5) h118
  obtain ⟨c119, l119, rfl, h120⟩ := cons_of (n := 4) h119
  obtain ⟨c120, l120, rfl, h121⟩ := cons_of (n := 3) h120
  obtain ⟨c121, l121, rfl, h122⟩ := cons_of (n := 2) h121
  obtain ⟨c122, l122, rfl, h123⟩ := cons_of (n := 1) h122
  obtain ⟨c123, l123, rfl, h124⟩ := cons_of (n := 0) h123
  rw [List.length_eq_zero_iff.1 h124]
  exact lk19 w W0 hb0
noncomputable def lkb2C : Code := ((Try.f3.body.bind (Tail.block 2)).getD .skip)
set_option maxRecDepth 100000 in
set_option maxHeartbeats 8000000 in
theorem lkb2 {c0 c1 c2 c3 c4 c5 c6 c7 c8 c9 c10 c11 c12 c13 c14 c15 c16 c17 c18 c19 c20 c21 c22 c23 c24 c25 c26 c27 c28 c29 c30 c31 c32 c33 c34 c35 c36 c37 c38 c39 c40 c41 c42 c43 c44 c45 c46 c47 c48 c49 c50 c51 c52 c53 c54 c55 c59 c60 c61 c62 c63 c64 c65 c66 c67 c68 c69 c70 c71 c72 c73 c74 c75 c76 c77 c78 c79 c80 c81 c82 c83 c84 c85 c86 c87 c88 c89 c90 c91 c92 c93 c94 c95 c96 c97 c98 c99 c100 c101 c102 c103 c104 c105 c106 c107 c108 c109 c110 c111 c112 c113 c114 c115 c116 c117 c118 c119 c120 c121 c122 c123 : Value} (W9 : World) (q : Nat) (HC9 : Hid (∀ i j u, i < 9 → j < 16 → (oc badO)[i * 16 + j]? = some u → W9.cell? ⟨q, i * 16 + j, none⟩ = some u)) (Q : Exit → Act → World → Prop)
    (hQ : ∀ (a' : Act) (w' : World), a'.tmps.size = 124 → a'.defers = [] → Below W9.heap.size W9 w' → Q .normal a' w') :
    Code.wp Try.prog lkb2C Q ⟨#[c0, c1, c2, c3, c4, c5, c6, c7, c8, c9, c10, c11, c12, c13, c14, c15, c16, c17, c18, c19, c20, c21, c22, c23, c24, c25, c26, c27, c28, c29, c30, c31, c32, c33, c34, c35, c36, c37, c38, c39, c40, c41, c42, c43, c44, c45, c46, c47, c48, c49, c50, c51, c52, c53, c54, c55, .slice (some ⟨q, 0, none⟩) 9 9, .int .i64 9, .int .i64 0, c59, c60, c61, c62, c63, c64, c65, c66, c67, c68, c69, c70, c71, c72, c73, c74, c75, c76, c77, c78, c79, c80, c81, c82, c83, c84, c85, c86, c87, c88, c89, c90, c91, c92, c93, c94, c95, c96, c97, c98, c99, c100, c101, c102, c103, c104, c105, c106, c107, c108, c109, c110, c111, c112, c113, c114, c115, c116, c117, c118, c119, c120, c121, c122, c123], []⟩ W9 := by
  have HQ := Lib.hid hQ
  clear hQ
  conv => arg 2; whnf
  go_wp2_with fail
  go_loopw [58] (fun i wr => ∃ k : Nat, k ≤ 9 ∧ i = .int .i64 (k : Int) ∧ Below W9.heap.size W9 wr) (fun i _ => 9 - (intOf i).toNat)
  case atStart => exact ⟨0, by omega, rfl, Below.refl _ _⟩
  case round =>
    obtain ⟨k, hk, rfl, hbk⟩ := hrel
    have Hbk := Lib.hid hbk
    clear hbk
    by_cases hlt : k < 9
    · have hlb : k < badO.length := by show k < 9; exact hlt
      obtain ⟨o, he⟩ : ∃ o, o = badO[k]'hlb := ⟨_, rfl⟩
      have hmem : o ∈ badO := by rw [he]; exact List.getElem_mem hlb
      obtain ⟨hfit, hmay⟩ := badO_ok o hmem
      have hcell : ∀ j u, j < 16 → (operC o)[j]? = some u → wr.cell? ⟨q, k * 16 + j, none⟩ = some u := fun j u hj hu => by
        refine later Hbk.out (HC9.out k j u hlt hj ?_)
        rw [oc_at badO k hlb j hj, ← he]; exact hu
      have HWk : Hid (∀ W, Calls Try.prog 17 #[.agg #[.int .u8 (o.op : Int), .int .u8 (o.slot : Int), .int .u8 (o.tok.a0.toNat : Int), .int .u8 (o.tok.a1.toNat : Int), .int .u8 (o.tok.a2.toNat : Int), .int .u8 (o.tok.a3.toNat : Int), .int .u8 (o.tok.a4.toNat : Int), .int .u8 (o.tok.a5.toNat : Int), .int .u8 (o.tok.a6.toNat : Int), .int .u8 (o.tok.a7.toNat : Int), .int .u8 (o.role : Int), .int .i64 o.keys, .int .i64 o.bytes, .int .i64 o.rate, .int .i64 o.burst, .int .u8 (o.node : Int)]] W fun e w' => e = .returned (.string ⟨#[]⟩) ∧ Below W.heap.size W w') := Lib.hid (koW o hfit [] (by rw [Wk.oout_eq o hfit, if_neg hmay]))
      have c0' : wr.cell? ⟨q, k * 16, none⟩ = some (.int .u8 (o.op : Int)) := hcell 0 _ (by omega) rfl
      have c1' : wr.cell? ⟨q, k * 16 + 1, none⟩ = some (.int .u8 (o.slot : Int)) := hcell 1 _ (by omega) rfl
      have c2' : wr.cell? ⟨q, k * 16 + 2, none⟩ = some (.int .u8 (o.tok.a0.toNat : Int)) := hcell 2 _ (by omega) rfl
      have c3' : wr.cell? ⟨q, k * 16 + 3, none⟩ = some (.int .u8 (o.tok.a1.toNat : Int)) := hcell 3 _ (by omega) rfl
      have c4' : wr.cell? ⟨q, k * 16 + 4, none⟩ = some (.int .u8 (o.tok.a2.toNat : Int)) := hcell 4 _ (by omega) rfl
      have c5' : wr.cell? ⟨q, k * 16 + 5, none⟩ = some (.int .u8 (o.tok.a3.toNat : Int)) := hcell 5 _ (by omega) rfl
      have c6' : wr.cell? ⟨q, k * 16 + 6, none⟩ = some (.int .u8 (o.tok.a4.toNat : Int)) := hcell 6 _ (by omega) rfl
      have c7' : wr.cell? ⟨q, k * 16 + 7, none⟩ = some (.int .u8 (o.tok.a5.toNat : Int)) := hcell 7 _ (by omega) rfl
      have c8' : wr.cell? ⟨q, k * 16 + 8, none⟩ = some (.int .u8 (o.tok.a6.toNat : Int)) := hcell 8 _ (by omega) rfl
      have c9' : wr.cell? ⟨q, k * 16 + 9, none⟩ = some (.int .u8 (o.tok.a7.toNat : Int)) := hcell 9 _ (by omega) rfl
      have c10' : wr.cell? ⟨q, k * 16 + 10, none⟩ = some (.int .u8 (o.role : Int)) := hcell 10 _ (by omega) rfl
      have c11' : wr.cell? ⟨q, k * 16 + 11, none⟩ = some (.int .i64 o.keys) := hcell 11 _ (by omega) rfl
      have c12' : wr.cell? ⟨q, k * 16 + 12, none⟩ = some (.int .i64 o.bytes) := hcell 12 _ (by omega) rfl
      have c13' : wr.cell? ⟨q, k * 16 + 13, none⟩ = some (.int .i64 o.rate) := hcell 13 _ (by omega) rfl
      have c14' : wr.cell? ⟨q, k * 16 + 14, none⟩ = some (.int .i64 o.burst) := hcell 14 _ (by omega) rfl
      have c15' : wr.cell? ⟨q, k * 16 + 15, none⟩ = some (.int .u8 (o.node : Int)) := hcell 15 _ (by omega) rfl
      have hst := storeOper (operC o) (operC_size o) (operC_one o)
      unfold operC at hst
      have k0 : (0 : Int) ≤ (k : Int) := by omega
      have k1 : (k : Int) < 9 := by omega
      clear he hmem hlb hfit hmay hcell
      go_wp2_with fail
      refine (HWk.out _).mono ?_
      rintro r w10 ⟨rfl, hb10⟩
      have HB10 := Lib.hid (bnext (bnew Hbk.out (.cells #[.int .u8 (o.op : Int), .int .u8 (o.slot : Int), .int .u8 (o.tok.a0.toNat : Int), .int .u8 (o.tok.a1.toNat : Int), .int .u8 (o.tok.a2.toNat : Int), .int .u8 (o.tok.a3.toNat : Int), .int .u8 (o.tok.a4.toNat : Int), .int .u8 (o.tok.a5.toNat : Int), .int .u8 (o.tok.a6.toNat : Int), .int .u8 (o.tok.a7.toNat : Int), .int .u8 (o.role : Int), .int .i64 o.keys, .int .i64 o.bytes, .int .i64 o.rate, .int .i64 o.burst, .int .u8 (o.node : Int)] 33)) hb10)
      clear hb10 c0' c1' c2' c3' c4' c5' c6' c7' c8' c9' c10' c11' c12' c13' c14' c15'
      go_wp2_with fail
      go_roundw
      case rel => exact ⟨k + 1, by omega, by go_num, HB10.out⟩
      case measure => simp [intOf]; omega
    · obtain rfl : k = 9 := by omega
      have HB := Lib.hid Hbk.out
      clear Hbk HC9
      go_wp2_with fail
      exact HQ.out _ _ rfl rfl HB.out
end Go.Proofs.Ytpdahbfjbgcmgaa
