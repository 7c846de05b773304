/-
  The library's contracts that wal reaches: their functions and types in this program. WRITTEN BY wip/tools/mk_shelf.py.
  wal.Name walked, over the library's numerals.
-/
import Derived.Test.YtjhbpcecdhdnoaaGreatDoorRWords
import Derived.Test.YtjhbpcecdhdnoaaGreatDoorRWwAZ
import Derived.Shelf.Strings.Builder1
import Derived.Shelf.Strings.Builder2
import Derived.Shelf.Strconv.Itoa0
import Derived.Shelf.Strconv.Itoa1
import Derived.Shelf.LaysM
import Derived.Shelf.Strconv.Itoa2
import Derived.Ground.MpProg
import Derived.Shelf.Pu.ParseUintPublic10
import Derived.Shelf.Strings.Prefix
import Derived.Shelf.Bits.Mul64
import Derived.Shelf.Strings.Repeat
import Derived.Shelf.Slices.Turned
import Derived.Shelf.Spec.SlicesInsertGrow
import Derived.Ground.Names2Prog
import Derived.Lib.ItoaMem
set_option linter.unusedSimpArgs false
set_option linter.unusedVariables false
namespace Go.Proofs.YtjhbpcecdhdnoaaGreatDoor
open Go.Shelf
def ws_lays283_ren : Go.Shelf.Ren := ⟨fun | 283 => 232 | n => n, fun | 3 => 3 | 9 => 9 | 4 => 4 | n => n, fun | n => n⟩
theorem ws_lays283 : Go.Proofs.Lays.n283 Tryz.prog ws_lays283_ren := {
  mixed := by kernel_rfl
  f283 := Tryz.func232.trans (congrArg some (by kernel_rfl))
  t3 := Tryz.underlying3
  a3 := Tryz.isAgg3
  z3 := Tryz.sizeOf3
  v3 := Tryz.zeroValue3
  t4 := Tryz.underlying4
  a4 := Tryz.isAgg4
  z4 := Tryz.sizeOf4
  v4 := Tryz.zeroValue4
  t9 := Tryz.underlying9
  a9 := Tryz.isAgg9
  z9 := Tryz.sizeOf9
  v9 := Tryz.zeroValue9 }
def ws_laysM284_ren : Go.Shelf.Ren := ⟨fun | 284 => 233 | 129 => 179 | 317 => 250 | 318 => 251 | n => n, fun | 53 => 38 | 3 => 3 | 212 => 293 | 0 => 0 | 4 => 4 | 46 => 172 | 5 => 5 | 9 => 9 | n => n, fun | 17 => 2 | n => n⟩
theorem ws_laysM284 : Go.Proofs.LaysM.n284 Tryz.prog ws_laysM284_ren := {
  mixed := by kernel_rfl
  f129 := Tryz.func179.trans (congrArg some (by kernel_rfl))
  f284 := Tryz.func233.trans (congrArg some (by kernel_rfl))
  f317 := Tryz.func250.trans (congrArg some (by kernel_rfl))
  f318 := Tryz.func251.trans (congrArg some (by kernel_rfl))
  t0 := Tryz.underlying0
  a0 := Tryz.isAgg0
  z0 := Tryz.sizeOf0
  v0 := Tryz.zeroValue0
  t3 := Tryz.underlying3
  a3 := Tryz.isAgg3
  z3 := Tryz.sizeOf3
  v3 := Tryz.zeroValue3
  t4 := Tryz.underlying4
  a4 := Tryz.isAgg4
  z4 := Tryz.sizeOf4
  v4 := Tryz.zeroValue4
  t5 := Tryz.underlying5
  a5 := Tryz.isAgg5
  z5 := Tryz.sizeOf5
  v5 := Tryz.zeroValue5
  t9 := Tryz.underlying9
  a9 := Tryz.isAgg9
  z9 := Tryz.sizeOf9
  v9 := Tryz.zeroValue9
  t46 := Tryz.underlying172
  a46 := Tryz.isAgg172
  z46 := Tryz.sizeOf172
  v46 := Tryz.zeroValue172
  t53 := Tryz.underlying38
  a53 := Tryz.isAgg38
  z53 := Tryz.sizeOf38
  v53 := Tryz.zeroValue38
  t212 := Tryz.underlying293
  a212 := Tryz.isAgg293
  z212 := Tryz.sizeOf293
  v212 := Tryz.zeroValue293
  g17 := by kernel_rfl
  i0 := by kernel_rfl
  i3 := by kernel_rfl
  i4 := by kernel_rfl
  i5 := by kernel_rfl
  i9 := by kernel_rfl
  i46 := by kernel_rfl
  i53 := by kernel_rfl
  i212 := by kernel_rfl
  m17 := by kernel_rfl }
def ws_lays285_ren : Go.Shelf.Ren := ⟨fun | 285 => 234 | n => n, fun | 37 => 141 | 53 => 38 | 3 => 3 | 4 => 4 | 51 => 25 | 9 => 9 | 5 => 5 | 0 => 0 | n => n, fun | n => n⟩
theorem ws_lays285 : Go.Proofs.Lays.n285 Tryz.prog ws_lays285_ren := {
  mixed := by kernel_rfl
  f285 := Tryz.func234.trans (congrArg some (by kernel_rfl))
  t0 := Tryz.underlying0
  a0 := Tryz.isAgg0
  z0 := Tryz.sizeOf0
  v0 := Tryz.zeroValue0
  t3 := Tryz.underlying3
  a3 := Tryz.isAgg3
  z3 := Tryz.sizeOf3
  v3 := Tryz.zeroValue3
  t4 := Tryz.underlying4
  a4 := Tryz.isAgg4
  z4 := Tryz.sizeOf4
  v4 := Tryz.zeroValue4
  t5 := Tryz.underlying5
  a5 := Tryz.isAgg5
  z5 := Tryz.sizeOf5
  v5 := Tryz.zeroValue5
  t9 := Tryz.underlying9
  a9 := Tryz.isAgg9
  z9 := Tryz.sizeOf9
  v9 := Tryz.zeroValue9
  t37 := Tryz.underlying141
  a37 := Tryz.isAgg141
  z37 := Tryz.sizeOf141
  v37 := Tryz.zeroValue141
  t51 := Tryz.underlying25
  a51 := Tryz.isAgg25
  z51 := Tryz.sizeOf25
  v51 := Tryz.zeroValue25
  t53 := Tryz.underlying38
  a53 := Tryz.isAgg38
  z53 := Tryz.sizeOf38
  v53 := Tryz.zeroValue38 }
def ws_laysPu14_ren : Go.Shelf.Ren := ⟨fun | 14 => 115 | 16 => 166 | 17 => 167 | 19 => 212 | 20 => 213 | 21 => 214 | 22 => 215 | 23 => 216 | 24 => 217 | 25 => 133 | 27 => 247 | 26 => 246 | 28 => 259 | 29 => 263 | 30 => 232 | 31 => 233 | 32 => 234 | 33 => 235 | 35 => 179 | 34 => 250 | 36 => 251 | 37 => 252 | 38 => 253 | 39 => 260 | 40 => 261 | n => n, fun | 9 => 9 | 3 => 3 | 22 => 38 | 24 => 179 | 25 => 180 | 4 => 4 | 34 => 257 | 5 => 5 | 36 => 172 | 37 => 141 | 0 => 0 | 39 => 259 | 21 => 21 | 44 => 285 | 47 => 236 | 50 => 306 | 48 => 304 | 2 => 2 | 52 => 272 | 55 => 274 | 59 => 293 | 60 => 25 | 20 => 20 | 61 => 294 | 65 => 308 | 66 => 309 | 67 => 250 | n => n, fun | 0 => 0 | 1 => 1 | 2 => 2 | 3 => 4 | 4 => 5 | n => n⟩
theorem ws_laysPu14 : Go.Proofs.LaysPu.n14 Tryz.prog ws_laysPu14_ren := {
  mixed := by kernel_rfl
  f14 := Tryz.func115.trans (congrArg some (by kernel_rfl))
  f16 := Tryz.func166.trans (congrArg some (by kernel_rfl))
  f17 := Tryz.func167.trans (congrArg some (by kernel_rfl))
  f19 := Tryz.func212.trans (congrArg some (by kernel_rfl))
  f20 := Tryz.func213.trans (congrArg some (by kernel_rfl))
  f21 := Tryz.func214.trans (congrArg some (by kernel_rfl))
  f22 := Tryz.func215.trans (congrArg some (by kernel_rfl))
  f23 := Tryz.func216.trans (congrArg some (by kernel_rfl))
  f24 := Tryz.func217.trans (congrArg some (by kernel_rfl))
  f25 := Tryz.func133.trans (congrArg some (by kernel_rfl))
  f26 := Tryz.func246.trans (congrArg some (by kernel_rfl))
  f27 := Tryz.func247.trans (congrArg some (by kernel_rfl))
  f28 := Tryz.func259.trans (congrArg some (by kernel_rfl))
  f29 := Tryz.func263.trans (congrArg some (by kernel_rfl))
  f30 := Tryz.func232.trans (congrArg some (by kernel_rfl))
  f31 := Tryz.func233.trans (congrArg some (by kernel_rfl))
  f32 := Tryz.func234.trans (congrArg some (by kernel_rfl))
  f33 := Tryz.func235.trans (congrArg some (by kernel_rfl))
  f34 := Tryz.func250.trans (congrArg some (by kernel_rfl))
  f35 := Tryz.func179.trans (congrArg some (by kernel_rfl))
  f36 := Tryz.func251.trans (congrArg some (by kernel_rfl))
  f37 := Tryz.func252.trans (congrArg some (by kernel_rfl))
  f38 := Tryz.func253.trans (congrArg some (by kernel_rfl))
  f39 := Tryz.func260.trans (congrArg some (by kernel_rfl))
  f40 := Tryz.func261.trans (congrArg some (by kernel_rfl))
  t0 := Tryz.underlying0
  a0 := Tryz.isAgg0
  z0 := Tryz.sizeOf0
  v0 := Tryz.zeroValue0
  i0 := by kernel_rfl
  t2 := Tryz.underlying2
  a2 := Tryz.isAgg2
  z2 := Tryz.sizeOf2
  v2 := Tryz.zeroValue2
  i2 := by kernel_rfl
  t3 := Tryz.underlying3
  a3 := Tryz.isAgg3
  z3 := Tryz.sizeOf3
  v3 := Tryz.zeroValue3
  i3 := by kernel_rfl
  t4 := Tryz.underlying4
  a4 := Tryz.isAgg4
  z4 := Tryz.sizeOf4
  v4 := Tryz.zeroValue4
  i4 := by kernel_rfl
  t5 := Tryz.underlying5
  a5 := Tryz.isAgg5
  z5 := Tryz.sizeOf5
  v5 := Tryz.zeroValue5
  i5 := by kernel_rfl
  t9 := Tryz.underlying9
  a9 := Tryz.isAgg9
  z9 := Tryz.sizeOf9
  v9 := Tryz.zeroValue9
  i9 := by kernel_rfl
  t20 := Tryz.underlying20
  a20 := Tryz.isAgg20
  z20 := Tryz.sizeOf20
  v20 := Tryz.zeroValue20
  i20 := by kernel_rfl
  t21 := Tryz.underlying21
  a21 := Tryz.isAgg21
  z21 := Tryz.sizeOf21
  v21 := Tryz.zeroValue21
  i21 := by kernel_rfl
  t22 := Tryz.underlying38
  a22 := Tryz.isAgg38
  z22 := Tryz.sizeOf38
  v22 := Tryz.zeroValue38
  i22 := by kernel_rfl
  t24 := Tryz.underlying179
  a24 := Tryz.isAgg179
  z24 := Tryz.sizeOf179
  v24 := Tryz.zeroValue179
  i24 := by kernel_rfl
  t25 := Tryz.underlying180
  a25 := Tryz.isAgg180
  z25 := Tryz.sizeOf180
  v25 := Tryz.zeroValue180
  i25 := by kernel_rfl
  t34 := Tryz.underlying257
  a34 := Tryz.isAgg257
  z34 := Tryz.sizeOf257
  v34 := Tryz.zeroValue257
  i34 := by kernel_rfl
  c34 := by kernel_rfl
  t36 := Tryz.underlying172
  a36 := Tryz.isAgg172
  z36 := Tryz.sizeOf172
  v36 := Tryz.zeroValue172
  i36 := by kernel_rfl
  t37 := Tryz.underlying141
  a37 := Tryz.isAgg141
  z37 := Tryz.sizeOf141
  v37 := Tryz.zeroValue141
  i37 := by kernel_rfl
  t39 := Tryz.underlying259
  a39 := Tryz.isAgg259
  z39 := Tryz.sizeOf259
  v39 := Tryz.zeroValue259
  i39 := by kernel_rfl
  t44 := Tryz.underlying285
  a44 := Tryz.isAgg285
  z44 := Tryz.sizeOf285
  v44 := Tryz.zeroValue285
  i44 := by kernel_rfl
  t47 := Tryz.underlying236
  a47 := Tryz.isAgg236
  z47 := Tryz.sizeOf236
  v47 := Tryz.zeroValue236
  i47 := by kernel_rfl
  t48 := Tryz.underlying304
  a48 := Tryz.isAgg304
  z48 := Tryz.sizeOf304
  v48 := Tryz.zeroValue304
  i48 := by kernel_rfl
  t50 := Tryz.underlying306
  a50 := Tryz.isAgg306
  z50 := Tryz.sizeOf306
  v50 := Tryz.zeroValue306
  i50 := by kernel_rfl
  t52 := Tryz.underlying272
  a52 := Tryz.isAgg272
  z52 := Tryz.sizeOf272
  v52 := Tryz.zeroValue272
  i52 := by kernel_rfl
  t55 := Tryz.underlying274
  a55 := Tryz.isAgg274
  z55 := Tryz.sizeOf274
  v55 := Tryz.zeroValue274
  i55 := by kernel_rfl
  t59 := Tryz.underlying293
  a59 := Tryz.isAgg293
  z59 := Tryz.sizeOf293
  v59 := Tryz.zeroValue293
  i59 := by kernel_rfl
  t60 := Tryz.underlying25
  a60 := Tryz.isAgg25
  z60 := Tryz.sizeOf25
  v60 := Tryz.zeroValue25
  i60 := by kernel_rfl
  t61 := Tryz.underlying294
  a61 := Tryz.isAgg294
  z61 := Tryz.sizeOf294
  t65 := Tryz.underlying308
  a65 := Tryz.isAgg308
  z65 := Tryz.sizeOf308
  v65 := Tryz.zeroValue308
  i65 := by kernel_rfl
  t66 := Tryz.underlying309
  a66 := Tryz.isAgg309
  z66 := Tryz.sizeOf309
  v66 := Tryz.zeroValue309
  i66 := by kernel_rfl
  t67 := Tryz.underlying250
  a67 := Tryz.isAgg250
  z67 := Tryz.sizeOf250
  v67 := Tryz.zeroValue250
  i67 := by kernel_rfl
  g0 := by kernel_rfl
  m0 := by kernel_rfl
  g1 := by kernel_rfl
  m1 := by kernel_rfl
  g2 := by kernel_rfl
  m2 := by kernel_rfl
  g3 := by kernel_rfl
  m3 := by kernel_rfl
  g4 := by kernel_rfl
  m4 := by kernel_rfl }
def ws_lays101_ren : Go.Shelf.Ren := ⟨fun | 101 => 116 | 208 => 168 | 206 => 218 | n => n, fun | 9 => 9 | 4 => 4 | 3 => 3 | n => n, fun | n => n⟩
theorem ws_lays101 : Go.Proofs.Lays.n101 Tryz.prog ws_lays101_ren := {
  mixed := by kernel_rfl
  f101 := Tryz.func116.trans (congrArg some (by kernel_rfl))
  f206 := Tryz.func218.trans (congrArg some (by kernel_rfl))
  f208 := Tryz.func168.trans (congrArg some (by kernel_rfl))
  t3 := Tryz.underlying3
  a3 := Tryz.isAgg3
  z3 := Tryz.sizeOf3
  v3 := Tryz.zeroValue3
  t4 := Tryz.underlying4
  a4 := Tryz.isAgg4
  z4 := Tryz.sizeOf4
  v4 := Tryz.zeroValue4
  t9 := Tryz.underlying9
  a9 := Tryz.isAgg9
  z9 := Tryz.sizeOf9
  v9 := Tryz.zeroValue9 }
def ws_lays105_ren : Go.Shelf.Ren := ⟨fun | 105 => 141 | 212 => 194 | 99 => 195 | 165 => 196 | 166 => 197 | 170 => 198 | 169 => 199 | 263 => 236 | 264 => 237 | 206 => 218 | 240 => 238 | 241 => 239 | 276 => 254 | 277 => 255 | n => n, fun | 9 => 9 | 3 => 3 | 4 => 4 | 20 => 20 | 0 => 0 | 46 => 172 | 109 => 243 | 5 => 5 | 72 => 247 | 76 => 248 | 51 => 25 | 146 => 276 | 53 => 38 | 148 => 278 | 70 => 245 | 37 => 141 | 75 => 179 | 127 => 236 | 164 => 295 | 80 => 250 | n => n, fun | n => n⟩
theorem ws_lays105 : Go.Proofs.Lays.n105 Tryz.prog ws_lays105_ren := {
  mixed := by kernel_rfl
  f99 := Tryz.func195.trans (congrArg some (by kernel_rfl))
  f105 := Tryz.func141.trans (congrArg some (by kernel_rfl))
  f165 := Tryz.func196.trans (congrArg some (by kernel_rfl))
  f166 := Tryz.func197.trans (congrArg some (by kernel_rfl))
  f169 := Tryz.func199.trans (congrArg some (by kernel_rfl))
  f170 := Tryz.func198.trans (congrArg some (by kernel_rfl))
  f206 := Tryz.func218.trans (congrArg some (by kernel_rfl))
  f212 := Tryz.func194.trans (congrArg some (by kernel_rfl))
  f240 := Tryz.func238.trans (congrArg some (by kernel_rfl))
  f241 := Tryz.func239.trans (congrArg some (by kernel_rfl))
  f263 := Tryz.func236.trans (congrArg some (by kernel_rfl))
  f264 := Tryz.func237.trans (congrArg some (by kernel_rfl))
  f276 := Tryz.func254.trans (congrArg some (by kernel_rfl))
  f277 := Tryz.func255.trans (congrArg some (by kernel_rfl))
  t0 := Tryz.underlying0
  a0 := Tryz.isAgg0
  z0 := Tryz.sizeOf0
  v0 := Tryz.zeroValue0
  t3 := Tryz.underlying3
  a3 := Tryz.isAgg3
  z3 := Tryz.sizeOf3
  v3 := Tryz.zeroValue3
  t4 := Tryz.underlying4
  a4 := Tryz.isAgg4
  z4 := Tryz.sizeOf4
  v4 := Tryz.zeroValue4
  t5 := Tryz.underlying5
  a5 := Tryz.isAgg5
  z5 := Tryz.sizeOf5
  v5 := Tryz.zeroValue5
  t9 := Tryz.underlying9
  a9 := Tryz.isAgg9
  z9 := Tryz.sizeOf9
  v9 := Tryz.zeroValue9
  t20 := Tryz.underlying20
  a20 := Tryz.isAgg20
  z20 := Tryz.sizeOf20
  v20 := Tryz.zeroValue20
  t37 := Tryz.underlying141
  a37 := Tryz.isAgg141
  z37 := Tryz.sizeOf141
  v37 := Tryz.zeroValue141
  t46 := Tryz.underlying172
  a46 := Tryz.isAgg172
  z46 := Tryz.sizeOf172
  v46 := Tryz.zeroValue172
  t51 := Tryz.underlying25
  a51 := Tryz.isAgg25
  z51 := Tryz.sizeOf25
  v51 := Tryz.zeroValue25
  t53 := Tryz.underlying38
  a53 := Tryz.isAgg38
  z53 := Tryz.sizeOf38
  v53 := Tryz.zeroValue38
  t70 := Tryz.underlying245
  a70 := Tryz.isAgg245
  z70 := Tryz.sizeOf245
  v70 := Tryz.zeroValue245
  t72 := Tryz.underlying247
  a72 := Tryz.isAgg247
  z72 := Tryz.sizeOf247
  v72 := Tryz.zeroValue247
  t75 := Tryz.underlying179
  a75 := Tryz.isAgg179
  z75 := Tryz.sizeOf179
  v75 := Tryz.zeroValue179
  t76 := Tryz.underlying248
  a76 := Tryz.isAgg248
  z76 := Tryz.sizeOf248
  v76 := Tryz.zeroValue248
  t109 := Tryz.underlying243
  a109 := Tryz.isAgg243
  z109 := Tryz.sizeOf243
  v109 := Tryz.zeroValue243
  t127 := Tryz.underlying236
  a127 := Tryz.isAgg236
  z127 := Tryz.sizeOf236
  v127 := Tryz.zeroValue236
  t146 := Tryz.underlying276
  a146 := Tryz.isAgg276
  z146 := Tryz.sizeOf276
  v146 := Tryz.zeroValue276
  t148 := Tryz.underlying278
  a148 := Tryz.isAgg278
  z148 := Tryz.sizeOf278
  v148 := Tryz.zeroValue278
  t164 := Tryz.underlying295
  a164 := Tryz.isAgg295
  z164 := Tryz.sizeOf295
  v164 := Tryz.zeroValue295 }
theorem ws_Builder_Extra_105 : Builder.Extra Tryz.prog ws_lays105_ren := {
  sizeBuilder := by kernel_rfl
  liesBuilder := by kernel_rfl
  t5 := Tryz.underlying5
  a5 := Tryz.isAgg5
  z5 := Tryz.sizeOf5
  v5 := Tryz.zeroValue5
  infoByte := by kernel_rfl
  cellsByte := by kernel_rfl
  sizeByte := by kernel_rfl
  neB5 := by decide }
def ws_lays110_ren : Go.Shelf.Ren := ⟨fun | 110 => 89 | 109 => 139 | n => n, fun | 31 => 93 | 9 => 9 | 4 => 4 | 3 => 3 | 0 => 0 | n => n, fun | n => n⟩
theorem ws_lays110 : Go.Proofs.Lays.n110 Tryz.prog ws_lays110_ren := {
  mixed := by kernel_rfl
  f109 := Tryz.func139.trans (congrArg some (by kernel_rfl))
  f110 := Tryz.func89.trans (congrArg some (by kernel_rfl))
  t0 := Tryz.underlying0
  a0 := Tryz.isAgg0
  z0 := Tryz.sizeOf0
  v0 := Tryz.zeroValue0
  t3 := Tryz.underlying3
  a3 := Tryz.isAgg3
  z3 := Tryz.sizeOf3
  v3 := Tryz.zeroValue3
  t4 := Tryz.underlying4
  a4 := Tryz.isAgg4
  z4 := Tryz.sizeOf4
  v4 := Tryz.zeroValue4
  t9 := Tryz.underlying9
  a9 := Tryz.isAgg9
  z9 := Tryz.sizeOf9
  v9 := Tryz.zeroValue9
  t31 := Tryz.underlying93
  a31 := Tryz.isAgg93
  z31 := Tryz.sizeOf93
  v31 := Tryz.zeroValue93 }
def ws_lays2_22_ren : Go.Shelf.Ren := ⟨fun | 22 => 93 | 29 => 144 | 30 => 145 | 36 => 201 | 17 => 242 | n => n, fun | 24 => 93 | 9 => 9 | 3 => 3 | 4 => 4 | 0 => 0 | n => n, fun | n => n⟩
theorem ws_lays2_22 : Go.Proofs.Lays2.n22 Tryz.prog ws_lays2_22_ren := {
  mixed := by kernel_rfl
  f17 := Tryz.func242.trans (congrArg some (by kernel_rfl))
  f22 := Tryz.func93.trans (congrArg some (by kernel_rfl))
  f29 := Tryz.func144.trans (congrArg some (by kernel_rfl))
  f30 := Tryz.func145.trans (congrArg some (by kernel_rfl))
  f36 := Tryz.func201.trans (congrArg some (by kernel_rfl))
  t0 := Tryz.underlying0
  a0 := Tryz.isAgg0
  z0 := Tryz.sizeOf0
  v0 := Tryz.zeroValue0
  t3 := Tryz.underlying3
  a3 := Tryz.isAgg3
  z3 := Tryz.sizeOf3
  v3 := Tryz.zeroValue3
  t4 := Tryz.underlying4
  a4 := Tryz.isAgg4
  z4 := Tryz.sizeOf4
  v4 := Tryz.zeroValue4
  t9 := Tryz.underlying9
  a9 := Tryz.isAgg9
  z9 := Tryz.sizeOf9
  v9 := Tryz.zeroValue9
  t24 := Tryz.underlying93
  a24 := Tryz.isAgg93
  z24 := Tryz.sizeOf93
  v24 := Tryz.zeroValue93
  i9 := by kernel_rfl }
end Go.Proofs.YtjhbpcecdhdnoaaGreatDoor
namespace Go.Proofs.YtjhbpcecdhdnoaaGreatDoor
open Go.RowKit Go.Sort
theorem decDigits_wd (n : Nat) : Lib.decDigits n = Wl.wd (Lib.nDigits n) n := by
  induction n using Nat.strongRecOn with
  | _ n ih =>
    by_cases h : n < 10
    · rw [Lib.decDigits_one h, Lib.nDigits_small h]
      simp [Wl.wd, Nat.mod_eq_of_lt h]
    · rw [Lib.nDigits_big h, Wl.wd, ← ih (n / 10) (by omega), Lib.decDigits, dif_neg h]
theorem wd_zeros {n k : Nat} (h : n < 10 ^ k) : ∀ m, Wl.wd (m + k) n = List.replicate m 48 ++ Wl.wd k n
  | 0 => by simp
  | m + 1 => by
    have e : m + 1 + k = (m + k) + 1 := by omega
    have h0 : n / 10 ^ (m + k) = 0 := Nat.div_eq_of_lt (Nat.lt_of_lt_of_le h (Nat.pow_le_pow_right (by decide) (by omega)))
    rw [e, Wl.wd_cons, h0, wd_zeros h m, List.replicate_succ]
    rfl
theorem w10_digits {n : Nat} (h : n < Nm.top) : Wl.w10 n = (8 - Lib.nDigits n) + Lib.nDigits n := by
  obtain ⟨h1, h2, h3⟩ := Wl.c10_spec h
  unfold Wl.w10
  cases hc : Wl.c10 n with
  | zero =>
    rw [hc] at h1
    have h1 : n < 1 := by simpa using h1
    have : n < 10 := by omega
    rw [Lib.nDigits_small this]
    rfl
  | succ k =>
    rw [hc] at h1 h3
    rw [Lib.nDigits_unique k n (h3 k (by omega)) h1]
    omega
theorem nd_le20 (u : Nat) (h : u < 18446744073709551616) : Lib.nDigits u ≤ 20 := by
  rcases Nat.eq_zero_or_pos u with h0 | h1
  · subst h0; rw [Lib.nDigits_small (by omega)]; omega
  · have h2 := Lib.numDigits_eq u h1 h
    split at h2 <;> omega
theorem repeat_one (b : UInt8) : ∀ m, Lib.repeatL [b] m = List.replicate m b
  | 0 => rfl
  | m + 1 => by rw [Lib.repeatL, repeat_one b m]; rfl
theorem name_digits {n : Nat} (h : n < Nm.top) : Wl.nameL n = [115, 101, 103, 46] ++ (List.replicate (8 - Lib.nDigits n) 48 ++ Lib.decDigits n) := by
  unfold Wl.nameL
  rw [w10_digits h, wd_zeros (Lib.lt_pow_nDigits n), ← decDigits_wd]
  rfl
theorem ba_add2 (a b : List UInt8) : (⟨a.toArray⟩ : ByteArray) ++ ⟨b.toArray⟩ = ⟨(a ++ b).toArray⟩ := by
  apply ByteArray.ext; simp [ByteArray.data_append]
theorem below_putRow {α : Type} [Inhabited α] {B g : Nat} {w W : World} (hb : Below B w W) (hg : B ≤ g) (enc : α → Value) (off : Nat) (d : Array α) : Below B w (putRow enc W g off d) := by
  refine ⟨hb.os, hb.tape, hb.output, ?_, fun k hk => ?_⟩
  · unfold putRow mapBlock
    simpa using hb.size
  · unfold putRow mapBlock
    simp only [Array.getElem?_modify]
    rw [if_neg (by omega)]
    exact hb.block k hk
theorem zeros_row (w : World) (T : TypeId) (m : Nat) (hm : m ≤ 24) : Holds (fun (b : UInt8) => Value.int .u8 (b.toNat : Int)) (w.alloc (.cells Lib.zeros24 T)) w.heap.size 0 (Array.replicate m (0 : UInt8)) := fun j hj => by
  have hj2 : j < m := by simpa using hj
  exact ⟨by rw [World.cell?_alloc_new, Lib.zeros24_at _ (by omega), getElem!_pos _ j hj]; simp, World.frozen?_alloc_new _ _ _ _⟩
set_option maxRecDepth 100000 in
set_option maxHeartbeats 4000000 in
theorem formatUint_any (n : Nat) (hn : n < Nm.top) (w : World) (hE : EnvT w) : Calls Tryz.prog 193 #[.int .u64 (n : Int), .int .i64 10] w fun e w' => e = .returned (.string ⟨(Lib.decDigits n).toArray⟩) ∧ Below w.heap.size w w' := by
  have hu64 : n < 18446744073709551616 := hn
  by_cases hs : n < 100
  · have HS := Lib.hid (fun W => Any.internal_strconv_small ws_lays283 n hs W)
    go_enter Tryz.func193, Tryz.ntmps193
    go_wp2_with fail
    refine (HS.out _).mono ?_
    rintro e w' ⟨rfl, rfl⟩
    go_wp2_with fail
    go_ret
    exact ⟨rfl, Below.refl _ _⟩
  have hu1 : 1 ≤ n := by omega
  have hnd20 : Lib.nDigits n ≤ 20 := nd_le20 n hu64
  have HN := Lib.hid (Any.internal_strconv_numDigits ws_laysM284 n hu1 hu64 (w.alloc (.cells Lib.zeros24 272)) (Lib.tabIs_alloc hE _))
  have hal : Tryz.prog.arrayLen 272 = 24 := by kernel_rfl
  have hsl : ∀ W, (Instr.sliceAt 272 (.pointer (some ⟨w.heap.size, 0, none⟩)) none (some (.int .i64 (Lib.nDigits n : Int))) none).run Tryz.prog W = .ok (.slice (some ⟨w.heap.size, 0, none⟩) (Lib.nDigits n) 24) W := fun W => by
    rw [run_sliceAt_array_h W 272 ⟨w.heap.size, 0, none⟩ (by kernel_rfl) .i64 (Lib.nDigits n : Int) (by omega) (by rw [hal]; omega)]
    have hel : Tryz.prog.elem 272 = 5 := by kernel_rfl
    rw [hal, hel]
    go_simp
  have hH0 := zeros_row w 272 (Lib.nDigits n) (by omega)
  have hfmt := Any.internal_strconv_formatBase10 ws_lays285 w.heap.size 0 24 n (Array.replicate (Lib.nDigits n) 0) (w.alloc (.cells Lib.zeros24 272)) hH0 (by rw [Array.size_replicate]; exact Lib.lt_pow_nDigits n) hu64 (by rw [Array.size_replicate]; omega)
  rw [Array.size_replicate] at hfmt
  have HH0 := Lib.hid hH0
  have HFm := Lib.hid hfmt
  have HL := Lib.hid (Lib.decDigits_length n)
  clear hH0 hal hfmt hE hn
  go_enter Tryz.func193, Tryz.ntmps193
  go_wp2_with fail
  refine HN.out.mono ?_
  rintro e w' ⟨rfl, rfl⟩
  go_wp2_with fail
  refine HFm.out.mono ?_
  rintro e w' ⟨rfl, k, v', dk, rfl, hF⟩
  have hcv : (convert 141 9 (.slice (some ⟨w.heap.size, 0, none⟩) (Lib.nDigits n) 24)).run Tryz.prog ((putRow (fun (b : UInt8) => Value.int .u8 (b.toNat : Int)) (w.alloc (.cells Lib.zeros24 272)) w.heap.size 0 dk).drewN k) = .ok (.string ⟨(Lib.decDigits n).toArray⟩) ((putRow (fun (b : UInt8) => Value.int .u8 (b.toNat : Int)) (w.alloc (.cells Lib.zeros24 272)) w.heap.size 0 dk).drewN k) := by
    have h := run_convert_bytes_back (P := Tryz.prog) ((putRow (fun (b : UInt8) => Value.int .u8 (b.toNat : Int)) (w.alloc (.cells Lib.zeros24 272)) w.heap.size 0 dk).drewN k) 141 9 5 ⟨w.heap.size, 0, none⟩ 24 (Lib.decDigits n) Tryz.underlying141 Tryz.underlying5 Tryz.underlying9 (fun j hj => by
      rw [Lib.row_is_numeral hF j hj, Lib.add_plain, World.cell?_drewN]
      exact cell?_putRow (fun (b : UInt8) => Value.int .u8 (b.toNat : Int)) _ w.heap.size 0 _ dk HH0.out (by rw [hF.size, Array.size_replicate]) j (by rw [hF.size]; rw [HL.out] at hj; exact hj))
    rw [HL.out] at h
    exact h
  have hb : Below w.heap.size w ((putRow (fun (b : UInt8) => Value.int .u8 (b.toNat : Int)) (w.alloc (.cells Lib.zeros24 272)) w.heap.size 0 dk).drewN k) := below_drewN (below_putRow (bnew (Below.refl _ _) _) (Nat.le_refl _) _ _ _) _
  clear hF
  generalize (putRow (fun (b : UInt8) => Value.int .u8 (b.toNat : Int)) (w.alloc (.cells Lib.zeros24 272)) w.heap.size 0 dk).drewN k = w2 at *
  go_wp2_with fail
  go_ret
  exact ⟨rfl, hb⟩
set_option maxRecDepth 100000 in
theorem formatUintP_any (n : Nat) (hn : n < Nm.top) (w : World) (hE : EnvT w) : Calls Tryz.prog 140 #[.int .u64 (n : Int), .int .i64 10] w fun e w' => e = .returned (.string ⟨(Lib.decDigits n).toArray⟩) ∧ Below w.heap.size w w' := by
  have H := Lib.hid (formatUint_any n hn w hE)
  obtain ⟨s, hs⟩ : ∃ s : ByteArray, s = ⟨(Lib.decDigits n).toArray⟩ := ⟨_, rfl⟩
  rw [← hs] at H ⊢
  go_enter Tryz.func140, Tryz.ntmps140
  go_wp2_with fail
  refine H.out.mono ?_
  rintro e w' ⟨rfl, hb⟩
  go_wp2_with fail
  go_ret
  exact ⟨by rw [hs]; rfl, hb⟩
set_option maxRecDepth 100000 in
set_option maxHeartbeats 1000000 in
theorem nameSays : NameSays := fun n W hn hE => by
  have HF := Lib.hid (fun w hw => formatUintP_any n hn w (hE.below hw (Nat.le_refl _)))
  have hnd20 : Lib.nDigits n ≤ 20 := nd_le20 n hn
  have hnd1 := Lib.nDigits_pos n
  have HR : Hid (∀ w, Calls Tryz.prog 141 #[.string ⟨#[48]⟩, .int .i64 ((8 - Lib.nDigits n : Nat) : Int)] w fun e w' => e = .returned (.string ⟨(Lib.repeatL (⟨#[48]⟩ : ByteArray).data.toList (8 - Lib.nDigits n)).toArray⟩) ∧ Below w.heap.size w w') := Lib.hid (fun w => Any.strings_Repeat ws_lays105 ws_Builder_Extra_105 ⟨#[48]⟩ (8 - Lib.nDigits n) w (by omega) (by have e : (⟨#[48]⟩ : ByteArray).size = 1 := rfl; rw [e]; omega))
  rw [show (⟨#[48]⟩ : ByteArray).data.toList = [48] from rfl, repeat_one] at HR
  obtain ⟨s, hs⟩ : ∃ s : ByteArray, s = ⟨(Lib.decDigits n).toArray⟩ := ⟨_, rfl⟩
  obtain ⟨z, hz⟩ : ∃ z : ByteArray, z = ⟨(List.replicate (8 - Lib.nDigits n) (48 : UInt8)).toArray⟩ := ⟨_, rfl⟩
  rw [← hs] at HF
  rw [← hz] at HR
  have hsz : s.size = Lib.nDigits n := by rw [hs, Lib.size_eq]; simp [Lib.decDigits_length]
  have hzz : z.size ≤ 8 := by rw [hz, Lib.size_eq]; simp
  have HE : Hid ((⟨#[115, 101, 103, 46]⟩ : ByteArray) ++ z ++ s = Wl.name n) := Lib.hid (by
    rw [hz, hs]
    have e : (⟨#[115, 101, 103, 46]⟩ : ByteArray) = ⟨([115, 101, 103, 46] : List UInt8).toArray⟩ := rfl
    rw [e, ba_add2, ba_add2]
    unfold Wl.name
    rw [name_digits hn, List.append_assoc])
  clear hs hz hE
  generalize Lib.nDigits n = m at *
  go_enter Tryz.func90, Tryz.ntmps90
  go_wp2_with fail
  refine (HF.out _ (Below.refl _ _)).mono ?_
  rintro e w1 ⟨rfl, hb1⟩
  go_wp2_with fail
  rw [show max ((8 : Int) - (m : Int)) 0 = ((8 - m : Nat) : Int) by omega]
  refine (HR.out _).mono ?_
  rintro e w2 ⟨rfl, hb2⟩
  go_wp2_with fail
  go_ret
  exact ⟨by rw [← HE.out]; rfl, bnext hb1 hb2⟩
end Go.Proofs.YtjhbpcecdhdnoaaGreatDoor
