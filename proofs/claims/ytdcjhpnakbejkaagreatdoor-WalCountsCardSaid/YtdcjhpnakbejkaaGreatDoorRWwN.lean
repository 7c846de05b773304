/-
  The library's contracts that wal reaches: their functions and types in this program. WRITTEN BY wip/tools/mk_shelf.py.
  wal.Name walked, over the library's numerals.
-/
import Derived.Test.YtdcjhpnakbejkaaGreatDoorRWords
import Derived.Test.YtdcjhpnakbejkaaGreatDoorRWwA
import Derived.Shelf.Strings.Builder1
import Derived.Shelf.Strings.Builder2
import Derived.Shelf.Strconv.Itoa0
import Derived.Shelf.Strconv.Itoa1
import Derived.Shelf.LaysM
import Derived.Shelf.Strconv.Itoa2
import Derived.Ground.MpProg
import Derived.Shelf.Pu.ParseUintPublic10
import Derived.Shelf.Strings.Prefix
import Derived.Shelf.Bits.Mul64
import Derived.Shelf.Strings.Repeat
import Derived.Shelf.Slices.Turned
import Derived.Shelf.Spec.SlicesInsertGrow
import Derived.Ground.Names2Prog
import Derived.Lib.ItoaMem
set_option linter.unusedSimpArgs false
set_option linter.unusedVariables false
namespace Go.Proofs.YtdcjhpnakbejkaaGreatDoor
open Go.Shelf
def ws_lays283_ren : Go.Shelf.Ren := ⟨fun | 283 => 204 | n => n, fun | 3 => 3 | 9 => 9 | 4 => 4 | n => n, fun | n => n⟩
theorem ws_lays283 : Go.Proofs.Lays.n283 Tryz.prog ws_lays283_ren := {
  mixed := by kernel_rfl
  f283 := Tryz.func204.trans (congrArg some (by kernel_rfl))
  t3 := Tryz.underlying3
  a3 := Tryz.isAgg3
  z3 := Tryz.sizeOf3
  v3 := Tryz.zeroValue3
  t4 := Tryz.underlying4
  a4 := Tryz.isAgg4
  z4 := Tryz.sizeOf4
  v4 := Tryz.zeroValue4
  t9 := Tryz.underlying9
  a9 := Tryz.isAgg9
  z9 := Tryz.sizeOf9
  v9 := Tryz.zeroValue9 }
def ws_laysM284_ren : Go.Shelf.Ren := ⟨fun | 284 => 205 | 129 => 196 | 317 => 245 | 318 => 246 | n => n, fun | 53 => 38 | 3 => 3 | 212 => 292 | 0 => 0 | 4 => 4 | 46 => 190 | 5 => 5 | 9 => 9 | n => n, fun | 17 => 2 | n => n⟩
theorem ws_laysM284 : Go.Proofs.LaysM.n284 Tryz.prog ws_laysM284_ren := {
  mixed := by kernel_rfl
  f129 := Tryz.func196.trans (congrArg some (by kernel_rfl))
  f284 := Tryz.func205.trans (congrArg some (by kernel_rfl))
  f317 := Tryz.func245.trans (congrArg some (by kernel_rfl))
  f318 := Tryz.func246.trans (congrArg some (by kernel_rfl))
  t0 := Tryz.underlying0
  a0 := Tryz.isAgg0
  z0 := Tryz.sizeOf0
  v0 := Tryz.zeroValue0
  t3 := Tryz.underlying3
  a3 := Tryz.isAgg3
  z3 := Tryz.sizeOf3
  v3 := Tryz.zeroValue3
  t4 := Tryz.underlying4
  a4 := Tryz.isAgg4
  z4 := Tryz.sizeOf4
  v4 := Tryz.zeroValue4
  t5 := Tryz.underlying5
  a5 := Tryz.isAgg5
  z5 := Tryz.sizeOf5
  v5 := Tryz.zeroValue5
  t9 := Tryz.underlying9
  a9 := Tryz.isAgg9
  z9 := Tryz.sizeOf9
  v9 := Tryz.zeroValue9
  t46 := Tryz.underlying190
  a46 := Tryz.isAgg190
  z46 := Tryz.sizeOf190
  v46 := Tryz.zeroValue190
  t53 := Tryz.underlying38
  a53 := Tryz.isAgg38
  z53 := Tryz.sizeOf38
  v53 := Tryz.zeroValue38
  t212 := Tryz.underlying292
  a212 := Tryz.isAgg292
  z212 := Tryz.sizeOf292
  v212 := Tryz.zeroValue292
  g17 := by kernel_rfl
  i0 := by kernel_rfl
  i3 := by kernel_rfl
  i4 := by kernel_rfl
  i5 := by kernel_rfl
  i9 := by kernel_rfl
  i46 := by kernel_rfl
  i53 := by kernel_rfl
  i212 := by kernel_rfl
  m17 := by kernel_rfl }
def ws_lays285_ren : Go.Shelf.Ren := ⟨fun | 285 => 206 | n => n, fun | 37 => 153 | 53 => 38 | 3 => 3 | 4 => 4 | 51 => 25 | 9 => 9 | 5 => 5 | 0 => 0 | n => n, fun | n => n⟩
theorem ws_lays285 : Go.Proofs.Lays.n285 Tryz.prog ws_lays285_ren := {
  mixed := by kernel_rfl
  f285 := Tryz.func206.trans (congrArg some (by kernel_rfl))
  t0 := Tryz.underlying0
  a0 := Tryz.isAgg0
  z0 := Tryz.sizeOf0
  v0 := Tryz.zeroValue0
  t3 := Tryz.underlying3
  a3 := Tryz.isAgg3
  z3 := Tryz.sizeOf3
  v3 := Tryz.zeroValue3
  t4 := Tryz.underlying4
  a4 := Tryz.isAgg4
  z4 := Tryz.sizeOf4
  v4 := Tryz.zeroValue4
  t5 := Tryz.underlying5
  a5 := Tryz.isAgg5
  z5 := Tryz.sizeOf5
  v5 := Tryz.zeroValue5
  t9 := Tryz.underlying9
  a9 := Tryz.isAgg9
  z9 := Tryz.sizeOf9
  v9 := Tryz.zeroValue9
  t37 := Tryz.underlying153
  a37 := Tryz.isAgg153
  z37 := Tryz.sizeOf153
  v37 := Tryz.zeroValue153
  t51 := Tryz.underlying25
  a51 := Tryz.isAgg25
  z51 := Tryz.sizeOf25
  v51 := Tryz.zeroValue25
  t53 := Tryz.underlying38
  a53 := Tryz.isAgg38
  z53 := Tryz.sizeOf38
  v53 := Tryz.zeroValue38 }
def ws_laysPu14_ren : Go.Shelf.Ren := ⟨fun | 14 => 75 | 16 => 131 | 17 => 132 | 19 => 197 | 20 => 198 | 21 => 199 | 22 => 200 | 23 => 201 | 24 => 202 | 25 => 170 | 27 => 244 | 26 => 243 | 28 => 265 | 29 => 272 | 30 => 204 | 31 => 205 | 32 => 206 | 33 => 207 | 35 => 196 | 34 => 245 | 36 => 246 | 37 => 247 | 38 => 248 | 39 => 266 | 40 => 267 | n => n, fun | 9 => 9 | 3 => 3 | 22 => 38 | 24 => 147 | 25 => 148 | 4 => 4 | 34 => 253 | 5 => 5 | 36 => 190 | 37 => 153 | 0 => 0 | 39 => 255 | 21 => 21 | 44 => 288 | 47 => 267 | 50 => 308 | 48 => 306 | 2 => 2 | 52 => 259 | 55 => 261 | 59 => 292 | 60 => 25 | 20 => 20 | 61 => 293 | 65 => 318 | 66 => 319 | 67 => 207 | n => n, fun | 0 => 0 | 1 => 1 | 2 => 2 | 3 => 4 | 4 => 5 | n => n⟩
theorem ws_laysPu14 : Go.Proofs.LaysPu.n14 Tryz.prog ws_laysPu14_ren := {
  mixed := by kernel_rfl
  f14 := Tryz.func75.trans (congrArg some (by kernel_rfl))
  f16 := Tryz.func131.trans (congrArg some (by kernel_rfl))
  f17 := Tryz.func132.trans (congrArg some (by kernel_rfl))
  f19 := Tryz.func197.trans (congrArg some (by kernel_rfl))
  f20 := Tryz.func198.trans (congrArg some (by kernel_rfl))
  f21 := Tryz.func199.trans (congrArg some (by kernel_rfl))
  f22 := Tryz.func200.trans (congrArg some (by kernel_rfl))
  f23 := Tryz.func201.trans (congrArg some (by kernel_rfl))
  f24 := Tryz.func202.trans (congrArg some (by kernel_rfl))
  f25 := Tryz.func170.trans (congrArg some (by kernel_rfl))
  f26 := Tryz.func243.trans (congrArg some (by kernel_rfl))
  f27 := Tryz.func244.trans (congrArg some (by kernel_rfl))
  f28 := Tryz.func265.trans (congrArg some (by kernel_rfl))
  f29 := Tryz.func272.trans (congrArg some (by kernel_rfl))
  f30 := Tryz.func204.trans (congrArg some (by kernel_rfl))
  f31 := Tryz.func205.trans (congrArg some (by kernel_rfl))
  f32 := Tryz.func206.trans (congrArg some (by kernel_rfl))
  f33 := Tryz.func207.trans (congrArg some (by kernel_rfl))
  f34 := Tryz.func245.trans (congrArg some (by kernel_rfl))
  f35 := Tryz.func196.trans (congrArg some (by kernel_rfl))
  f36 := Tryz.func246.trans (congrArg some (by kernel_rfl))
  f37 := Tryz.func247.trans (congrArg some (by kernel_rfl))
  f38 := Tryz.func248.trans (congrArg some (by kernel_rfl))
  f39 := Tryz.func266.trans (congrArg some (by kernel_rfl))
  f40 := Tryz.func267.trans (congrArg some (by kernel_rfl))
  t0 := Tryz.underlying0
  a0 := Tryz.isAgg0
  z0 := Tryz.sizeOf0
  v0 := Tryz.zeroValue0
  i0 := by kernel_rfl
  t2 := Tryz.underlying2
  a2 := Tryz.isAgg2
  z2 := Tryz.sizeOf2
  v2 := Tryz.zeroValue2
  i2 := by kernel_rfl
  t3 := Tryz.underlying3
  a3 := Tryz.isAgg3
  z3 := Tryz.sizeOf3
  v3 := Tryz.zeroValue3
  i3 := by kernel_rfl
  t4 := Tryz.underlying4
  a4 := Tryz.isAgg4
  z4 := Tryz.sizeOf4
  v4 := Tryz.zeroValue4
  i4 := by kernel_rfl
  t5 := Tryz.underlying5
  a5 := Tryz.isAgg5
  z5 := Tryz.sizeOf5
  v5 := Tryz.zeroValue5
  i5 := by kernel_rfl
  t9 := Tryz.underlying9
  a9 := Tryz.isAgg9
  z9 := Tryz.sizeOf9
  v9 := Tryz.zeroValue9
  i9 := by kernel_rfl
  t20 := Tryz.underlying20
  a20 := Tryz.isAgg20
  z20 := Tryz.sizeOf20
  v20 := Tryz.zeroValue20
  i20 := by kernel_rfl
  t21 := Tryz.underlying21
  a21 := Tryz.isAgg21
  z21 := Tryz.sizeOf21
  v21 := Tryz.zeroValue21
  i21 := by kernel_rfl
  t22 := Tryz.underlying38
  a22 := Tryz.isAgg38
  z22 := Tryz.sizeOf38
  v22 := Tryz.zeroValue38
  i22 := by kernel_rfl
  t24 := Tryz.underlying147
  a24 := Tryz.isAgg147
  z24 := Tryz.sizeOf147
  v24 := Tryz.zeroValue147
  i24 := by kernel_rfl
  t25 := Tryz.underlying148
  a25 := Tryz.isAgg148
  z25 := Tryz.sizeOf148
  v25 := Tryz.zeroValue148
  i25 := by kernel_rfl
  t34 := Tryz.underlying253
  a34 := Tryz.isAgg253
  z34 := Tryz.sizeOf253
  v34 := Tryz.zeroValue253
  i34 := by kernel_rfl
  c34 := by kernel_rfl
  t36 := Tryz.underlying190
  a36 := Tryz.isAgg190
  z36 := Tryz.sizeOf190
  v36 := Tryz.zeroValue190
  i36 := by kernel_rfl
  t37 := Tryz.underlying153
  a37 := Tryz.isAgg153
  z37 := Tryz.sizeOf153
  v37 := Tryz.zeroValue153
  i37 := by kernel_rfl
  t39 := Tryz.underlying255
  a39 := Tryz.isAgg255
  z39 := Tryz.sizeOf255
  v39 := Tryz.zeroValue255
  i39 := by kernel_rfl
  t44 := Tryz.underlying288
  a44 := Tryz.isAgg288
  z44 := Tryz.sizeOf288
  v44 := Tryz.zeroValue288
  i44 := by kernel_rfl
  t47 := Tryz.underlying267
  a47 := Tryz.isAgg267
  z47 := Tryz.sizeOf267
  v47 := Tryz.zeroValue267
  i47 := by kernel_rfl
  t48 := Tryz.underlying306
  a48 := Tryz.isAgg306
  z48 := Tryz.sizeOf306
  v48 := Tryz.zeroValue306
  i48 := by kernel_rfl
  t50 := Tryz.underlying308
  a50 := Tryz.isAgg308
  z50 := Tryz.sizeOf308
  v50 := Tryz.zeroValue308
  i50 := by kernel_rfl
  t52 := Tryz.underlying259
  a52 := Tryz.isAgg259
  z52 := Tryz.sizeOf259
  v52 := Tryz.zeroValue259
  i52 := by kernel_rfl
  t55 := Tryz.underlying261
  a55 := Tryz.isAgg261
  z55 := Tryz.sizeOf261
  v55 := Tryz.zeroValue261
  i55 := by kernel_rfl
  t59 := Tryz.underlying292
  a59 := Tryz.isAgg292
  z59 := Tryz.sizeOf292
  v59 := Tryz.zeroValue292
  i59 := by kernel_rfl
  t60 := Tryz.underlying25
  a60 := Tryz.isAgg25
  z60 := Tryz.sizeOf25
  v60 := Tryz.zeroValue25
  i60 := by kernel_rfl
  t61 := Tryz.underlying293
  a61 := Tryz.isAgg293
  z61 := Tryz.sizeOf293
  t65 := Tryz.underlying318
  a65 := Tryz.isAgg318
  z65 := Tryz.sizeOf318
  v65 := Tryz.zeroValue318
  i65 := by kernel_rfl
  t66 := Tryz.underlying319
  a66 := Tryz.isAgg319
  z66 := Tryz.sizeOf319
  v66 := Tryz.zeroValue319
  i66 := by kernel_rfl
  t67 := Tryz.underlying207
  a67 := Tryz.isAgg207
  z67 := Tryz.sizeOf207
  v67 := Tryz.zeroValue207
  i67 := by kernel_rfl
  g0 := by kernel_rfl
  m0 := by kernel_rfl
  g1 := by kernel_rfl
  m1 := by kernel_rfl
  g2 := by kernel_rfl
  m2 := by kernel_rfl
  g3 := by kernel_rfl
  m3 := by kernel_rfl
  g4 := by kernel_rfl
  m4 := by kernel_rfl }
def ws_lays101_ren : Go.Shelf.Ren := ⟨fun | 101 => 76 | 208 => 133 | 206 => 203 | n => n, fun | 9 => 9 | 4 => 4 | 3 => 3 | n => n, fun | n => n⟩
theorem ws_lays101 : Go.Proofs.Lays.n101 Tryz.prog ws_lays101_ren := {
  mixed := by kernel_rfl
  f101 := Tryz.func76.trans (congrArg some (by kernel_rfl))
  f206 := Tryz.func203.trans (congrArg some (by kernel_rfl))
  f208 := Tryz.func133.trans (congrArg some (by kernel_rfl))
  t3 := Tryz.underlying3
  a3 := Tryz.isAgg3
  z3 := Tryz.sizeOf3
  v3 := Tryz.zeroValue3
  t4 := Tryz.underlying4
  a4 := Tryz.isAgg4
  z4 := Tryz.sizeOf4
  v4 := Tryz.zeroValue4
  t9 := Tryz.underlying9
  a9 := Tryz.isAgg9
  z9 := Tryz.sizeOf9
  v9 := Tryz.zeroValue9 }
def ws_lays105_ren : Go.Shelf.Ren := ⟨fun | 105 => 78 | 212 => 135 | 99 => 136 | 165 => 137 | 166 => 138 | 170 => 139 | 169 => 140 | 263 => 208 | 264 => 209 | 206 => 203 | 240 => 210 | 241 => 211 | 276 => 249 | 277 => 250 | n => n, fun | 9 => 9 | 3 => 3 | 4 => 4 | 20 => 20 | 0 => 0 | 46 => 190 | 109 => 199 | 5 => 5 | 72 => 204 | 76 => 205 | 51 => 25 | 146 => 263 | 53 => 38 | 148 => 265 | 70 => 202 | 37 => 153 | 75 => 147 | 127 => 267 | 164 => 294 | 80 => 207 | n => n, fun | n => n⟩
theorem ws_lays105 : Go.Proofs.Lays.n105 Tryz.prog ws_lays105_ren := {
  mixed := by kernel_rfl
  f99 := Tryz.func136.trans (congrArg some (by kernel_rfl))
  f105 := Tryz.func78.trans (congrArg some (by kernel_rfl))
  f165 := Tryz.func137.trans (congrArg some (by kernel_rfl))
  f166 := Tryz.func138.trans (congrArg some (by kernel_rfl))
  f169 := Tryz.func140.trans (congrArg some (by kernel_rfl))
  f170 := Tryz.func139.trans (congrArg some (by kernel_rfl))
  f206 := Tryz.func203.trans (congrArg some (by kernel_rfl))
  f212 := Tryz.func135.trans (congrArg some (by kernel_rfl))
  f240 := Tryz.func210.trans (congrArg some (by kernel_rfl))
  f241 := Tryz.func211.trans (congrArg some (by kernel_rfl))
  f263 := Tryz.func208.trans (congrArg some (by kernel_rfl))
  f264 := Tryz.func209.trans (congrArg some (by kernel_rfl))
  f276 := Tryz.func249.trans (congrArg some (by kernel_rfl))
  f277 := Tryz.func250.trans (congrArg some (by kernel_rfl))
  t0 := Tryz.underlying0
  a0 := Tryz.isAgg0
  z0 := Tryz.sizeOf0
  v0 := Tryz.zeroValue0
  t3 := Tryz.underlying3
  a3 := Tryz.isAgg3
  z3 := Tryz.sizeOf3
  v3 := Tryz.zeroValue3
  t4 := Tryz.underlying4
  a4 := Tryz.isAgg4
  z4 := Tryz.sizeOf4
  v4 := Tryz.zeroValue4
  t5 := Tryz.underlying5
  a5 := Tryz.isAgg5
  z5 := Tryz.sizeOf5
  v5 := Tryz.zeroValue5
  t9 := Tryz.underlying9
  a9 := Tryz.isAgg9
  z9 := Tryz.sizeOf9
  v9 := Tryz.zeroValue9
  t20 := Tryz.underlying20
  a20 := Tryz.isAgg20
  z20 := Tryz.sizeOf20
  v20 := Tryz.zeroValue20
  t37 := Tryz.underlying153
  a37 := Tryz.isAgg153
  z37 := Tryz.sizeOf153
  v37 := Tryz.zeroValue153
  t46 := Tryz.underlying190
  a46 := Tryz.isAgg190
  z46 := Tryz.sizeOf190
  v46 := Tryz.zeroValue190
  t51 := Tryz.underlying25
  a51 := Tryz.isAgg25
  z51 := Tryz.sizeOf25
  v51 := Tryz.zeroValue25
  t53 := Tryz.underlying38
  a53 := Tryz.isAgg38
  z53 := Tryz.sizeOf38
  v53 := Tryz.zeroValue38
  t70 := Tryz.underlying202
  a70 := Tryz.isAgg202
  z70 := Tryz.sizeOf202
  v70 := Tryz.zeroValue202
  t72 := Tryz.underlying204
  a72 := Tryz.isAgg204
  z72 := Tryz.sizeOf204
  v72 := Tryz.zeroValue204
  t75 := Tryz.underlying147
  a75 := Tryz.isAgg147
  z75 := Tryz.sizeOf147
  v75 := Tryz.zeroValue147
  t76 := Tryz.underlying205
  a76 := Tryz.isAgg205
  z76 := Tryz.sizeOf205
  v76 := Tryz.zeroValue205
  t109 := Tryz.underlying199
  a109 := Tryz.isAgg199
  z109 := Tryz.sizeOf199
  v109 := Tryz.zeroValue199
  t127 := Tryz.underlying267
  a127 := Tryz.isAgg267
  z127 := Tryz.sizeOf267
  v127 := Tryz.zeroValue267
  t146 := Tryz.underlying263
  a146 := Tryz.isAgg263
  z146 := Tryz.sizeOf263
  v146 := Tryz.zeroValue263
  t148 := Tryz.underlying265
  a148 := Tryz.isAgg265
  z148 := Tryz.sizeOf265
  v148 := Tryz.zeroValue265
  t164 := Tryz.underlying294
  a164 := Tryz.isAgg294
  z164 := Tryz.sizeOf294
  v164 := Tryz.zeroValue294 }
theorem ws_Builder_Extra_105 : Builder.Extra Tryz.prog ws_lays105_ren := {
  sizeBuilder := by kernel_rfl
  liesBuilder := by kernel_rfl
  t5 := Tryz.underlying5
  a5 := Tryz.isAgg5
  z5 := Tryz.sizeOf5
  v5 := Tryz.zeroValue5
  infoByte := by kernel_rfl
  cellsByte := by kernel_rfl
  sizeByte := by kernel_rfl
  neB5 := by decide }
def ws_lays110_ren : Go.Shelf.Ren := ⟨fun | 110 => 80 | 109 => 141 | n => n, fun | 31 => 86 | 9 => 9 | 4 => 4 | 3 => 3 | 0 => 0 | n => n, fun | n => n⟩
theorem ws_lays110 : Go.Proofs.Lays.n110 Tryz.prog ws_lays110_ren := {
  mixed := by kernel_rfl
  f109 := Tryz.func141.trans (congrArg some (by kernel_rfl))
  f110 := Tryz.func80.trans (congrArg some (by kernel_rfl))
  t0 := Tryz.underlying0
  a0 := Tryz.isAgg0
  z0 := Tryz.sizeOf0
  v0 := Tryz.zeroValue0
  t3 := Tryz.underlying3
  a3 := Tryz.isAgg3
  z3 := Tryz.sizeOf3
  v3 := Tryz.zeroValue3
  t4 := Tryz.underlying4
  a4 := Tryz.isAgg4
  z4 := Tryz.sizeOf4
  v4 := Tryz.zeroValue4
  t9 := Tryz.underlying9
  a9 := Tryz.isAgg9
  z9 := Tryz.sizeOf9
  v9 := Tryz.zeroValue9
  t31 := Tryz.underlying86
  a31 := Tryz.isAgg86
  z31 := Tryz.sizeOf86
  v31 := Tryz.zeroValue86 }
def ws_lays2_22_ren : Go.Shelf.Ren := ⟨fun | 22 => 83 | 29 => 144 | 30 => 145 | 36 => 214 | 17 => 255 | n => n, fun | 24 => 86 | 9 => 9 | 3 => 3 | 4 => 4 | 0 => 0 | n => n, fun | n => n⟩
theorem ws_lays2_22 : Go.Proofs.Lays2.n22 Tryz.prog ws_lays2_22_ren := {
  mixed := by kernel_rfl
  f17 := Tryz.func255.trans (congrArg some (by kernel_rfl))
  f22 := Tryz.func83.trans (congrArg some (by kernel_rfl))
  f29 := Tryz.func144.trans (congrArg some (by kernel_rfl))
  f30 := Tryz.func145.trans (congrArg some (by kernel_rfl))
  f36 := Tryz.func214.trans (congrArg some (by kernel_rfl))
  t0 := Tryz.underlying0
  a0 := Tryz.isAgg0
  z0 := Tryz.sizeOf0
  v0 := Tryz.zeroValue0
  t3 := Tryz.underlying3
  a3 := Tryz.isAgg3
  z3 := Tryz.sizeOf3
  v3 := Tryz.zeroValue3
  t4 := Tryz.underlying4
  a4 := Tryz.isAgg4
  z4 := Tryz.sizeOf4
  v4 := Tryz.zeroValue4
  t9 := Tryz.underlying9
  a9 := Tryz.isAgg9
  z9 := Tryz.sizeOf9
  v9 := Tryz.zeroValue9
  t24 := Tryz.underlying86
  a24 := Tryz.isAgg86
  z24 := Tryz.sizeOf86
  v24 := Tryz.zeroValue86
  i9 := by kernel_rfl }
end Go.Proofs.YtdcjhpnakbejkaaGreatDoor
namespace Go.Proofs.YtdcjhpnakbejkaaGreatDoor
open Go.RowKit Go.Sort
theorem decDigits_wd (n : Nat) : Lib.decDigits n = Wl.wd (Lib.nDigits n) n := by
  induction n using Nat.strongRecOn with
  | _ n ih =>
    by_cases h : n < 10
    · rw [Lib.decDigits_one h, Lib.nDigits_small h]
      simp [Wl.wd, Nat.mod_eq_of_lt h]
    · rw [Lib.nDigits_big h, Wl.wd, ← ih (n / 10) (by omega), Lib.decDigits, dif_neg h]
theorem wd_zeros {n k : Nat} (h : n < 10 ^ k) : ∀ m, Wl.wd (m + k) n = List.replicate m 48 ++ Wl.wd k n
  | 0 => by simp
  | m + 1 => by
    have e : m + 1 + k = (m + k) + 1 := by omega
    have h0 : n / 10 ^ (m + k) = 0 := Nat.div_eq_of_lt (Nat.lt_of_lt_of_le h (Nat.pow_le_pow_right (by decide) (by omega)))
    rw [e, Wl.wd_cons, h0, wd_zeros h m, List.replicate_succ]
    rfl
theorem w10_digits {n : Nat} (h : n < Nm.top) : Wl.w10 n = (8 - Lib.nDigits n) + Lib.nDigits n := by
  obtain ⟨h1, h2, h3⟩ := Wl.c10_spec h
  unfold Wl.w10
  cases hc : Wl.c10 n with
  | zero =>
    rw [hc] at h1
    have h1 : n < 1 := by simpa using h1
    have : n < 10 := by omega
    rw [Lib.nDigits_small this]
    rfl
  | succ k =>
    rw [hc] at h1 h3
    rw [Lib.nDigits_unique k n (h3 k (by omega)) h1]
    omega
theorem nd_le20 (u : Nat) (h : u < 18446744073709551616) : Lib.nDigits u ≤ 20 := by
  rcases Nat.eq_zero_or_pos u with h0 | h1
  · subst h0; rw [Lib.nDigits_small (by omega)]; omega
  · have h2 := Lib.numDigits_eq u h1 h
    split at h2 <;> omega
theorem repeat_one (b : UInt8) : ∀ m, Lib.repeatL [b] m = List.replicate m b
  | 0 => rfl
  | m + 1 => by rw [Lib.repeatL, repeat_one b m]; rfl
theorem name_digits {n : Nat} (h : n < Nm.top) : Wl.nameL n = [115, 101, 103, 46] ++ (List.replicate (8 - Lib.nDigits n) 48 ++ Lib.decDigits n) := by
  unfold Wl.nameL
  rw [w10_digits h, wd_zeros (Lib.lt_pow_nDigits n), ← decDigits_wd]
  rfl
theorem ba_add2 (a b : List UInt8) : (⟨a.toArray⟩ : ByteArray) ++ ⟨b.toArray⟩ = ⟨(a ++ b).toArray⟩ := by
  apply ByteArray.ext; simp [ByteArray.data_append]
theorem below_putRow {α : Type} [Inhabited α] {B g : Nat} {w W : World} (hb : Below B w W) (hg : B ≤ g) (enc : α → Value) (off : Nat) (d : Array α) : Below B w (putRow enc W g off d) := by
  refine ⟨hb.os, hb.tape, hb.output, ?_, fun k hk => ?_⟩
  · unfold putRow mapBlock
    simpa using hb.size
  · unfold putRow mapBlock
    simp only [Array.getElem?_modify]
    rw [if_neg (by omega)]
    exact hb.block k hk
theorem zeros_row (w : World) (T : TypeId) (m : Nat) (hm : m ≤ 24) : Holds (fun (b : UInt8) => Value.int .u8 (b.toNat : Int)) (w.alloc (.cells Lib.zeros24 T)) w.heap.size 0 (Array.replicate m (0 : UInt8)) := fun j hj => by
  have hj2 : j < m := by simpa using hj
  exact ⟨by rw [World.cell?_alloc_new, Lib.zeros24_at _ (by omega), getElem!_pos _ j hj]; simp, World.frozen?_alloc_new _ _ _ _⟩
set_option maxRecDepth 100000 in
set_option maxHeartbeats 4000000 in
theorem formatUint_any (n : Nat) (hn : n < Nm.top) (w : World) (hE : EnvT w) : Calls Tryz.prog 134 #[.int .u64 (n : Int), .int .i64 10] w fun e w' => e = .returned (.string ⟨(Lib.decDigits n).toArray⟩) ∧ Below w.heap.size w w' := by
  have hu64 : n < 18446744073709551616 := hn
  by_cases hs : n < 100
  · have HS := Lib.hid (fun W => Any.internal_strconv_small ws_lays283 n hs W)
    go_enter Tryz.func134, Tryz.ntmps134
    go_wp2_with fail
    refine (HS.out _).mono ?_
    rintro e w' ⟨rfl, rfl⟩
    go_wp2_with fail
    go_ret
    exact ⟨rfl, Below.refl _ _⟩
  have hu1 : 1 ≤ n := by omega
  have hnd20 : Lib.nDigits n ≤ 20 := nd_le20 n hu64
  have HN := Lib.hid (Any.internal_strconv_numDigits ws_laysM284 n hu1 hu64 (w.alloc (.cells Lib.zeros24 259)) (Lib.tabIs_alloc hE _))
  have hal : Tryz.prog.arrayLen 259 = 24 := by kernel_rfl
  have hsl : ∀ W, (Instr.sliceAt 259 (.pointer (some ⟨w.heap.size, 0, none⟩)) none (some (.int .i64 (Lib.nDigits n : Int))) none).run Tryz.prog W = .ok (.slice (some ⟨w.heap.size, 0, none⟩) (Lib.nDigits n) 24) W := fun W => by
    rw [run_sliceAt_array_h W 259 ⟨w.heap.size, 0, none⟩ (by kernel_rfl) .i64 (Lib.nDigits n : Int) (by omega) (by rw [hal]; omega)]
    have hel : Tryz.prog.elem 259 = 5 := by kernel_rfl
    rw [hal, hel]
    go_simp
  have hH0 := zeros_row w 259 (Lib.nDigits n) (by omega)
  have hfmt := Any.internal_strconv_formatBase10 ws_lays285 w.heap.size 0 24 n (Array.replicate (Lib.nDigits n) 0) (w.alloc (.cells Lib.zeros24 259)) hH0 (by rw [Array.size_replicate]; exact Lib.lt_pow_nDigits n) hu64 (by rw [Array.size_replicate]; omega)
  rw [Array.size_replicate] at hfmt
  have HH0 := Lib.hid hH0
  have HFm := Lib.hid hfmt
  have HL := Lib.hid (Lib.decDigits_length n)
  clear hH0 hal hfmt hE hn
  go_enter Tryz.func134, Tryz.ntmps134
  go_wp2_with fail
  refine HN.out.mono ?_
  rintro e w' ⟨rfl, rfl⟩
  go_wp2_with fail
  refine HFm.out.mono ?_
  rintro e w' ⟨rfl, k, v', dk, rfl, hF⟩
  have hcv : (convert 153 9 (.slice (some ⟨w.heap.size, 0, none⟩) (Lib.nDigits n) 24)).run Tryz.prog ((putRow (fun (b : UInt8) => Value.int .u8 (b.toNat : Int)) (w.alloc (.cells Lib.zeros24 259)) w.heap.size 0 dk).drewN k) = .ok (.string ⟨(Lib.decDigits n).toArray⟩) ((putRow (fun (b : UInt8) => Value.int .u8 (b.toNat : Int)) (w.alloc (.cells Lib.zeros24 259)) w.heap.size 0 dk).drewN k) := by
    have h := run_convert_bytes_back (P := Tryz.prog) ((putRow (fun (b : UInt8) => Value.int .u8 (b.toNat : Int)) (w.alloc (.cells Lib.zeros24 259)) w.heap.size 0 dk).drewN k) 153 9 5 ⟨w.heap.size, 0, none⟩ 24 (Lib.decDigits n) Tryz.underlying153 Tryz.underlying5 Tryz.underlying9 (fun j hj => by
      rw [Lib.row_is_numeral hF j hj, Lib.add_plain, World.cell?_drewN]
      exact cell?_putRow (fun (b : UInt8) => Value.int .u8 (b.toNat : Int)) _ w.heap.size 0 _ dk HH0.out (by rw [hF.size, Array.size_replicate]) j (by rw [hF.size]; rw [HL.out] at hj; exact hj))
    rw [HL.out] at h
    exact h
  have hb : Below w.heap.size w ((putRow (fun (b : UInt8) => Value.int .u8 (b.toNat : Int)) (w.alloc (.cells Lib.zeros24 259)) w.heap.size 0 dk).drewN k) := below_drewN (below_putRow (bnew (Below.refl _ _) _) (Nat.le_refl _) _ _ _) _
  clear hF
  generalize (putRow (fun (b : UInt8) => Value.int .u8 (b.toNat : Int)) (w.alloc (.cells Lib.zeros24 259)) w.heap.size 0 dk).drewN k = w2 at *
  go_wp2_with fail
  go_ret
  exact ⟨rfl, hb⟩
set_option maxRecDepth 100000 in
theorem formatUintP_any (n : Nat) (hn : n < Nm.top) (w : World) (hE : EnvT w) : Calls Tryz.prog 77 #[.int .u64 (n : Int), .int .i64 10] w fun e w' => e = .returned (.string ⟨(Lib.decDigits n).toArray⟩) ∧ Below w.heap.size w w' := by
  have H := Lib.hid (formatUint_any n hn w hE)
  obtain ⟨s, hs⟩ : ∃ s : ByteArray, s = ⟨(Lib.decDigits n).toArray⟩ := ⟨_, rfl⟩
  rw [← hs] at H ⊢
  go_enter Tryz.func77, Tryz.ntmps77
  go_wp2_with fail
  refine H.out.mono ?_
  rintro e w' ⟨rfl, hb⟩
  go_wp2_with fail
  go_ret
  exact ⟨by rw [hs]; rfl, hb⟩
set_option maxRecDepth 100000 in
set_option maxHeartbeats 1000000 in
theorem nameSays : NameSays := fun n W hn hE => by
  have HF := Lib.hid (fun w hw => formatUintP_any n hn w (hE.below hw (Nat.le_refl _)))
  have hnd20 : Lib.nDigits n ≤ 20 := nd_le20 n hn
  have hnd1 := Lib.nDigits_pos n
  have HR : Hid (∀ w, Calls Tryz.prog 78 #[.string ⟨#[48]⟩, .int .i64 ((8 - Lib.nDigits n : Nat) : Int)] w fun e w' => e = .returned (.string ⟨(Lib.repeatL (⟨#[48]⟩ : ByteArray).data.toList (8 - Lib.nDigits n)).toArray⟩) ∧ Below w.heap.size w w') := Lib.hid (fun w => Any.strings_Repeat ws_lays105 ws_Builder_Extra_105 ⟨#[48]⟩ (8 - Lib.nDigits n) w (by omega) (by have e : (⟨#[48]⟩ : ByteArray).size = 1 := rfl; rw [e]; omega))
  rw [show (⟨#[48]⟩ : ByteArray).data.toList = [48] from rfl, repeat_one] at HR
  obtain ⟨s, hs⟩ : ∃ s : ByteArray, s = ⟨(Lib.decDigits n).toArray⟩ := ⟨_, rfl⟩
  obtain ⟨z, hz⟩ : ∃ z : ByteArray, z = ⟨(List.replicate (8 - Lib.nDigits n) (48 : UInt8)).toArray⟩ := ⟨_, rfl⟩
  rw [← hs] at HF
  rw [← hz] at HR
  have hsz : s.size = Lib.nDigits n := by rw [hs, Lib.size_eq]; simp [Lib.decDigits_length]
  have hzz : z.size ≤ 8 := by rw [hz, Lib.size_eq]; simp
  have HE : Hid ((⟨#[115, 101, 103, 46]⟩ : ByteArray) ++ z ++ s = Wl.name n) := Lib.hid (by
    rw [hz, hs]
    have e : (⟨#[115, 101, 103, 46]⟩ : ByteArray) = ⟨([115, 101, 103, 46] : List UInt8).toArray⟩ := rfl
    rw [e, ba_add2, ba_add2]
    unfold Wl.name
    rw [name_digits hn, List.append_assoc])
  clear hs hz hE
  generalize Lib.nDigits n = m at *
  go_enter Tryz.func24, Tryz.ntmps24
  go_wp2_with fail
  refine (HF.out _ (Below.refl _ _)).mono ?_
  rintro e w1 ⟨rfl, hb1⟩
  go_wp2_with fail
  rw [show max ((8 : Int) - (m : Int)) 0 = ((8 - m : Nat) : Int) by omega]
  refine (HR.out _).mono ?_
  rintro e w2 ⟨rfl, hb2⟩
  go_wp2_with fail
  go_ret
  exact ⟨by rw [← HE.out]; rfl, bnext hb1 hb2⟩
end Go.Proofs.YtdcjhpnakbejkaaGreatDoor
