/-
  Joined: Functions of the library at this dump: tables of numbers, and that its text is the shelf's. · Layer 16: what lies in the program's and the library's variables; the library's functions on texts and numbers, in plain words. · Layer 15: words on runes and on a text's iterator; the walks of glob.small, glob.Fold, firkinref15.Fold. · Layer 16: which runes may be what (the program's); how far (while), and where a text ends (closed). · Layer 16: where a text ends (closed). · Layer 16: a token as a value, of both programs; slices of tokens; the texts (word.text). · Layer 16: names, numbers, marks; the first word (the program's). · Layer 16: marks; the first word (the program's). · Layer 16: all the words of a text (the program's). · Layer 17: which predicates may be but for what is within them, the program's. · Layer 17: which predicates may be, if those within them may, the program's. · Layer 17: what is asked of a predicate and of all within it: the function that calls itself, over any closure; the first of the three closures; May. · Layer 17: May, the program's.
-/
import Derived.Laws.StructEq
import Derived.Laws.Rows
import Derived.Laws.ResultCell
import Derived.Lib.Zigzag
import Derived.Laws.Cover1
import Derived.Deep.QuietTactic
import Derived.BigQuiet
import Derived.Deep.RegionHeld3
import Derived.Deep.DrawnRows
import Derived.Deep.Cut
import Derived.StillTail
import Derived.Deep.RegionWith
import Derived.Shelf.Strings.Replace
import Derived.Shelf.Strconv.Itoa4
import Derived.Shelf.Strconv.ErrVarParseInt
import Derived.Shelf.Strings.Prefix
import Derived.Test.YtipgaafgnefmdaaGreatDoorProg
import Derived.Test.YtipgaafgnefmdaaGreatDoorZ1
import Derived.Lib.SmallJoins
import Derived.Lib.AppendIntMem
import Derived.Lib.OthersKept
import Derived.Test.YtipgaafgnefmdaaGreatDoorZ2
import Derived.Test.YtipgaafgnefmdaaGreatDoorZ3
import Derived.Test.YtipgaafgnefmdaaGreatDoorZ4

namespace Go.Proofs.YtipgaafgnefmdaaGreatDoor
set_option linter.unusedVariables false
set_option linter.unusedSimpArgs false
def lay_rep_ren : Go.Shelf.Ren := ⟨fun | 155 => 114 | 154 => 125 | 138 => 135 | 165 => 136 | 143 => 137 | 166 => 138 | 197 => 139 | 169 => 140 | 195 => 151 | 218 => 152 | 240 => 153 | 241 => 154 | 219 => 155 | 260 => 156 | 276 => 163 | 277 => 164 | 217 => 165 | 225 => 166 | 224 => 167 | 267 => 168 | 266 => 171 | 314 => 172 | n => n, fun | 9 => 9 | 3 => 3 | 4 => 4 | 72 => 151 | 0 => 0 | 76 => 153 | 105 => 155 | 21 => 21 | 5 => 5 | 70 => 149 | 20 => 20 | 37 => 116 | 75 => 126 | 127 => 169 | 164 => 179 | 46 => 144 | 119 => 182 | 139 => 185 | 138 => 184 | 146 => 187 | 51 => 176 | 80 => 61 | n => n, fun | 1 => 4 | 3 => 5 | 4 => 6 | n => n⟩
theorem lay_rep : Go.Proofs.Lays.n155 Tryz.prog lay_rep_ren := {
  mixed := by kernel_rfl
  f138 := Tryz.func135.trans (congrArg some (by kernel_rfl))
  f143 := Tryz.func137.trans (congrArg some (by kernel_rfl))
  f154 := Tryz.func125.trans (congrArg some (by kernel_rfl))
  f155 := Tryz.func114.trans (congrArg some (by kernel_rfl))
  f165 := Tryz.func136.trans (congrArg some (by kernel_rfl))
  f166 := Tryz.func138.trans (congrArg some (by kernel_rfl))
  f169 := Tryz.func140.trans (congrArg some (by kernel_rfl))
  f195 := Tryz.func151.trans (congrArg some (by kernel_rfl))
  f197 := Tryz.func139.trans (congrArg some (by kernel_rfl))
  f217 := Tryz.func165.trans (congrArg some (by kernel_rfl))
  f218 := Tryz.func152.trans (congrArg some (by kernel_rfl))
  f219 := Tryz.func155.trans (congrArg some (by kernel_rfl))
  f224 := Tryz.func167.trans (congrArg some (by kernel_rfl))
  f225 := Tryz.func166.trans (congrArg some (by kernel_rfl))
  f240 := Tryz.func153.trans (congrArg some (by kernel_rfl))
  f241 := Tryz.func154.trans (congrArg some (by kernel_rfl))
  f260 := Tryz.func156.trans (congrArg some (by kernel_rfl))
  f266 := Tryz.func171.trans (congrArg some (by kernel_rfl))
  f267 := Tryz.func168.trans (congrArg some (by kernel_rfl))
  f276 := Tryz.func163.trans (congrArg some (by kernel_rfl))
  f277 := Tryz.func164.trans (congrArg some (by kernel_rfl))
  f314 := Tryz.func172.trans (congrArg some (by kernel_rfl))
  t0 := Tryz.underlying0
  a0 := Tryz.isAgg0
  z0 := Tryz.sizeOf0
  v0 := Tryz.zeroValue0
  t3 := Tryz.underlying3
  a3 := Tryz.isAgg3
  z3 := Tryz.sizeOf3
  v3 := Tryz.zeroValue3
  t4 := Tryz.underlying4
  a4 := Tryz.isAgg4
  z4 := Tryz.sizeOf4
  v4 := Tryz.zeroValue4
  t5 := Tryz.underlying5
  a5 := Tryz.isAgg5
  z5 := Tryz.sizeOf5
  v5 := Tryz.zeroValue5
  t9 := Tryz.underlying9
  a9 := Tryz.isAgg9
  z9 := Tryz.sizeOf9
  v9 := Tryz.zeroValue9
  t20 := Tryz.underlying20
  a20 := Tryz.isAgg20
  z20 := Tryz.sizeOf20
  v20 := Tryz.zeroValue20
  t21 := Tryz.underlying21
  a21 := Tryz.isAgg21
  z21 := Tryz.sizeOf21
  v21 := Tryz.zeroValue21
  t37 := Tryz.underlying116
  a37 := Tryz.isAgg116
  z37 := Tryz.sizeOf116
  v37 := Tryz.zeroValue116
  t46 := Tryz.underlying144
  a46 := Tryz.isAgg144
  z46 := Tryz.sizeOf144
  v46 := Tryz.zeroValue144
  t51 := Tryz.underlying176
  a51 := Tryz.isAgg176
  z51 := Tryz.sizeOf176
  v51 := Tryz.zeroValue176
  t70 := Tryz.underlying149
  a70 := Tryz.isAgg149
  z70 := Tryz.sizeOf149
  v70 := Tryz.zeroValue149
  t72 := Tryz.underlying151
  a72 := Tryz.isAgg151
  z72 := Tryz.sizeOf151
  v72 := Tryz.zeroValue151
  t75 := Tryz.underlying126
  a75 := Tryz.isAgg126
  z75 := Tryz.sizeOf126
  v75 := Tryz.zeroValue126
  t76 := Tryz.underlying153
  a76 := Tryz.isAgg153
  z76 := Tryz.sizeOf153
  v76 := Tryz.zeroValue153
  t105 := Tryz.underlying155
  a105 := Tryz.isAgg155
  z105 := Tryz.sizeOf155
  v105 := Tryz.zeroValue155
  t119 := Tryz.underlying182
  a119 := Tryz.isAgg182
  z119 := Tryz.sizeOf182
  t127 := Tryz.underlying169
  a127 := Tryz.isAgg169
  z127 := Tryz.sizeOf169
  v127 := Tryz.zeroValue169
  t138 := Tryz.underlying184
  a138 := Tryz.isAgg184
  z138 := Tryz.sizeOf184
  v138 := Tryz.zeroValue184
  t139 := Tryz.underlying185
  a139 := Tryz.isAgg185
  z139 := Tryz.sizeOf185
  v139 := Tryz.zeroValue185
  t146 := Tryz.underlying187
  a146 := Tryz.isAgg187
  z146 := Tryz.sizeOf187
  v146 := Tryz.zeroValue187
  t164 := Tryz.underlying179
  a164 := Tryz.isAgg179
  z164 := Tryz.sizeOf179
  v164 := Tryz.zeroValue179
  g1 := by kernel_rfl
  g3 := by kernel_rfl
  g4 := by kernel_rfl }
def lay_fmt_ren : Go.Shelf.Ren := ⟨fun | 173 => 124 | 246 => 134 | 283 => 147 | 284 => 148 | 285 => 149 | 286 => 150 | 129 => 159 | 317 => 158 | 318 => 160 | 319 => 161 | 320 => 162 | 337 => 169 | 338 => 170 | n => n, fun | 2 => 2 | 3 => 3 | 9 => 9 | 4 => 4 | 171 => 163 | 0 => 0 | 53 => 120 | 37 => 116 | 5 => 5 | 173 => 166 | 212 => 175 | 51 => 176 | 20 => 20 | 213 => 177 | 46 => 144 | 232 => 189 | 233 => 190 | n => n, fun | 17 => 3 | 18 => 7 | 19 => 8 | n => n⟩
theorem lay_fmt : Go.Proofs.LaysM.n173 Tryz.prog lay_fmt_ren := {
  mixed := by kernel_rfl
  f129 := Tryz.func159.trans (congrArg some (by kernel_rfl))
  f173 := Tryz.func124.trans (congrArg some (by kernel_rfl))
  f246 := Tryz.func134.trans (congrArg some (by kernel_rfl))
  f283 := Tryz.func147.trans (congrArg some (by kernel_rfl))
  f284 := Tryz.func148.trans (congrArg some (by kernel_rfl))
  f285 := Tryz.func149.trans (congrArg some (by kernel_rfl))
  f286 := Tryz.func150.trans (congrArg some (by kernel_rfl))
  f317 := Tryz.func158.trans (congrArg some (by kernel_rfl))
  f318 := Tryz.func160.trans (congrArg some (by kernel_rfl))
  f319 := Tryz.func161.trans (congrArg some (by kernel_rfl))
  f320 := Tryz.func162.trans (congrArg some (by kernel_rfl))
  f337 := Tryz.func169.trans (congrArg some (by kernel_rfl))
  f338 := Tryz.func170.trans (congrArg some (by kernel_rfl))
  t0 := Tryz.underlying0
  a0 := Tryz.isAgg0
  z0 := Tryz.sizeOf0
  v0 := Tryz.zeroValue0
  t2 := Tryz.underlying2
  a2 := Tryz.isAgg2
  z2 := Tryz.sizeOf2
  v2 := Tryz.zeroValue2
  t3 := Tryz.underlying3
  a3 := Tryz.isAgg3
  z3 := Tryz.sizeOf3
  v3 := Tryz.zeroValue3
  t4 := Tryz.underlying4
  a4 := Tryz.isAgg4
  z4 := Tryz.sizeOf4
  v4 := Tryz.zeroValue4
  t5 := Tryz.underlying5
  a5 := Tryz.isAgg5
  z5 := Tryz.sizeOf5
  v5 := Tryz.zeroValue5
  t9 := Tryz.underlying9
  a9 := Tryz.isAgg9
  z9 := Tryz.sizeOf9
  v9 := Tryz.zeroValue9
  t20 := Tryz.underlying20
  a20 := Tryz.isAgg20
  z20 := Tryz.sizeOf20
  v20 := Tryz.zeroValue20
  t37 := Tryz.underlying116
  a37 := Tryz.isAgg116
  z37 := Tryz.sizeOf116
  v37 := Tryz.zeroValue116
  t46 := Tryz.underlying144
  a46 := Tryz.isAgg144
  z46 := Tryz.sizeOf144
  v46 := Tryz.zeroValue144
  t51 := Tryz.underlying176
  a51 := Tryz.isAgg176
  z51 := Tryz.sizeOf176
  v51 := Tryz.zeroValue176
  t53 := Tryz.underlying120
  a53 := Tryz.isAgg120
  z53 := Tryz.sizeOf120
  v53 := Tryz.zeroValue120
  t171 := Tryz.underlying163
  a171 := Tryz.isAgg163
  z171 := Tryz.sizeOf163
  v171 := Tryz.zeroValue163
  t173 := Tryz.underlying166
  a173 := Tryz.isAgg166
  z173 := Tryz.sizeOf166
  v173 := Tryz.zeroValue166
  t212 := Tryz.underlying175
  a212 := Tryz.isAgg175
  z212 := Tryz.sizeOf175
  v212 := Tryz.zeroValue175
  t213 := Tryz.underlying177
  a213 := Tryz.isAgg177
  z213 := Tryz.sizeOf177
  t232 := Tryz.underlying189
  a232 := Tryz.isAgg189
  z232 := Tryz.sizeOf189
  v232 := Tryz.zeroValue189
  t233 := Tryz.underlying190
  a233 := Tryz.isAgg190
  z233 := Tryz.sizeOf190
  v233 := Tryz.zeroValue190
  g17 := by kernel_rfl
  g18 := by kernel_rfl
  g19 := by kernel_rfl
  i0 := by kernel_rfl
  i2 := by kernel_rfl
  i3 := by kernel_rfl
  i4 := by kernel_rfl
  i5 := by kernel_rfl
  i9 := by kernel_rfl
  i20 := by kernel_rfl
  i37 := by kernel_rfl
  i46 := by kernel_rfl
  i51 := by kernel_rfl
  i53 := by kernel_rfl
  i171 := by kernel_rfl
  i173 := by kernel_rfl
  i212 := by kernel_rfl
  i232 := by kernel_rfl
  i233 := by kernel_rfl
  m17 := by kernel_rfl
  m18 := by kernel_rfl
  m19 := by kernel_rfl }
def lay_prs_ren : Go.Shelf.Ren := ⟨fun | 174 => 111 | 247 => 122 | 245 => 123 | 287 => 129 | 279 => 130 | 280 => 131 | 281 => 132 | 282 => 133 | 321 => 142 | 322 => 143 | 316 => 144 | 171 => 146 | 205 => 145 | 243 => 157 | 246 => 134 | 283 => 147 | 284 => 148 | 285 => 149 | 286 => 150 | 129 => 159 | 317 => 158 | 318 => 160 | 319 => 161 | 320 => 162 | 337 => 169 | 338 => 170 | n => n, fun | 9 => 9 | 3 => 3 | 2 => 2 | 75 => 126 | 85 => 127 | 4 => 4 | 167 => 141 | 5 => 5 | 53 => 120 | 175 => 142 | 46 => 144 | 168 => 145 | 37 => 116 | 0 => 0 | 210 => 160 | 21 => 21 | 127 => 169 | 145 => 172 | 143 => 170 | 171 => 163 | 173 => 166 | 212 => 175 | 51 => 176 | 20 => 20 | 213 => 177 | 232 => 189 | 233 => 190 | 80 => 61 | n => n, fun | 15 => 1 | 16 => 2 | 17 => 3 | 18 => 7 | 19 => 8 | n => n⟩
theorem lay_prs : Go.Proofs.LaysC.n174 Tryz.prog lay_prs_ren := {
  mixed := by kernel_rfl
  f129 := Tryz.func159.trans (congrArg some (by kernel_rfl))
  f171 := Tryz.func146.trans (congrArg some (by kernel_rfl))
  f174 := Tryz.func111.trans (congrArg some (by kernel_rfl))
  f205 := Tryz.func145.trans (congrArg some (by kernel_rfl))
  f243 := Tryz.func157.trans (congrArg some (by kernel_rfl))
  f245 := Tryz.func123.trans (congrArg some (by kernel_rfl))
  f246 := Tryz.func134.trans (congrArg some (by kernel_rfl))
  f247 := Tryz.func122.trans (congrArg some (by kernel_rfl))
  f279 := Tryz.func130.trans (congrArg some (by kernel_rfl))
  f280 := Tryz.func131.trans (congrArg some (by kernel_rfl))
  f281 := Tryz.func132.trans (congrArg some (by kernel_rfl))
  f282 := Tryz.func133.trans (congrArg some (by kernel_rfl))
  f283 := Tryz.func147.trans (congrArg some (by kernel_rfl))
  f284 := Tryz.func148.trans (congrArg some (by kernel_rfl))
  f285 := Tryz.func149.trans (congrArg some (by kernel_rfl))
  f286 := Tryz.func150.trans (congrArg some (by kernel_rfl))
  f287 := Tryz.func129.trans (congrArg some (by kernel_rfl))
  f316 := Tryz.func144.trans (congrArg some (by kernel_rfl))
  f317 := Tryz.func158.trans (congrArg some (by kernel_rfl))
  f318 := Tryz.func160.trans (congrArg some (by kernel_rfl))
  f319 := Tryz.func161.trans (congrArg some (by kernel_rfl))
  f320 := Tryz.func162.trans (congrArg some (by kernel_rfl))
  f321 := Tryz.func142.trans (congrArg some (by kernel_rfl))
  f322 := Tryz.func143.trans (congrArg some (by kernel_rfl))
  f337 := Tryz.func169.trans (congrArg some (by kernel_rfl))
  f338 := Tryz.func170.trans (congrArg some (by kernel_rfl))
  t0 := Tryz.underlying0
  a0 := Tryz.isAgg0
  z0 := Tryz.sizeOf0
  v0 := Tryz.zeroValue0
  t2 := Tryz.underlying2
  a2 := Tryz.isAgg2
  z2 := Tryz.sizeOf2
  v2 := Tryz.zeroValue2
  t3 := Tryz.underlying3
  a3 := Tryz.isAgg3
  z3 := Tryz.sizeOf3
  v3 := Tryz.zeroValue3
  t4 := Tryz.underlying4
  a4 := Tryz.isAgg4
  z4 := Tryz.sizeOf4
  v4 := Tryz.zeroValue4
  t5 := Tryz.underlying5
  a5 := Tryz.isAgg5
  z5 := Tryz.sizeOf5
  v5 := Tryz.zeroValue5
  t9 := Tryz.underlying9
  a9 := Tryz.isAgg9
  z9 := Tryz.sizeOf9
  v9 := Tryz.zeroValue9
  t20 := Tryz.underlying20
  a20 := Tryz.isAgg20
  z20 := Tryz.sizeOf20
  v20 := Tryz.zeroValue20
  t21 := Tryz.underlying21
  a21 := Tryz.isAgg21
  z21 := Tryz.sizeOf21
  v21 := Tryz.zeroValue21
  t37 := Tryz.underlying116
  a37 := Tryz.isAgg116
  z37 := Tryz.sizeOf116
  v37 := Tryz.zeroValue116
  t46 := Tryz.underlying144
  a46 := Tryz.isAgg144
  z46 := Tryz.sizeOf144
  v46 := Tryz.zeroValue144
  t51 := Tryz.underlying176
  a51 := Tryz.isAgg176
  z51 := Tryz.sizeOf176
  v51 := Tryz.zeroValue176
  t53 := Tryz.underlying120
  a53 := Tryz.isAgg120
  z53 := Tryz.sizeOf120
  v53 := Tryz.zeroValue120
  t75 := Tryz.underlying126
  a75 := Tryz.isAgg126
  z75 := Tryz.sizeOf126
  v75 := Tryz.zeroValue126
  t85 := Tryz.underlying127
  a85 := Tryz.isAgg127
  z85 := Tryz.sizeOf127
  v85 := Tryz.zeroValue127
  t127 := Tryz.underlying169
  a127 := Tryz.isAgg169
  z127 := Tryz.sizeOf169
  v127 := Tryz.zeroValue169
  t143 := Tryz.underlying170
  a143 := Tryz.isAgg170
  z143 := Tryz.sizeOf170
  v143 := Tryz.zeroValue170
  t145 := Tryz.underlying172
  a145 := Tryz.isAgg172
  z145 := Tryz.sizeOf172
  v145 := Tryz.zeroValue172
  t167 := Tryz.underlying141
  a167 := Tryz.isAgg141
  z167 := Tryz.sizeOf141
  v167 := Tryz.zeroValue141
  t168 := Tryz.underlying145
  a168 := Tryz.isAgg145
  z168 := Tryz.sizeOf145
  v168 := Tryz.zeroValue145
  t171 := Tryz.underlying163
  a171 := Tryz.isAgg163
  z171 := Tryz.sizeOf163
  v171 := Tryz.zeroValue163
  t173 := Tryz.underlying166
  a173 := Tryz.isAgg166
  z173 := Tryz.sizeOf166
  v173 := Tryz.zeroValue166
  t175 := Tryz.underlying142
  a175 := Tryz.isAgg142
  z175 := Tryz.sizeOf142
  v175 := Tryz.zeroValue142
  t210 := Tryz.underlying160
  a210 := Tryz.isAgg160
  z210 := Tryz.sizeOf160
  v210 := Tryz.zeroValue160
  t212 := Tryz.underlying175
  a212 := Tryz.isAgg175
  z212 := Tryz.sizeOf175
  v212 := Tryz.zeroValue175
  t213 := Tryz.underlying177
  a213 := Tryz.isAgg177
  z213 := Tryz.sizeOf177
  t232 := Tryz.underlying189
  a232 := Tryz.isAgg189
  z232 := Tryz.sizeOf189
  v232 := Tryz.zeroValue189
  t233 := Tryz.underlying190
  a233 := Tryz.isAgg190
  z233 := Tryz.sizeOf190
  v233 := Tryz.zeroValue190
  g15 := by kernel_rfl
  g16 := by kernel_rfl
  g17 := by kernel_rfl
  g18 := by kernel_rfl
  g19 := by kernel_rfl
  t80 := Tryz.underlying61
  a80 := Tryz.isAgg61
  z80 := Tryz.sizeOf61
  v80 := Tryz.zeroValue61
  i0 := by kernel_rfl
  i2 := by kernel_rfl
  i3 := by kernel_rfl
  i4 := by kernel_rfl
  i5 := by kernel_rfl
  i9 := by kernel_rfl
  i20 := by kernel_rfl
  i21 := by kernel_rfl
  i37 := by kernel_rfl
  i46 := by kernel_rfl
  i51 := by kernel_rfl
  i53 := by kernel_rfl
  i75 := by kernel_rfl
  i80 := by kernel_rfl
  i85 := by kernel_rfl
  i127 := by kernel_rfl
  i143 := by kernel_rfl
  i145 := by kernel_rfl
  i167 := by kernel_rfl
  i168 := by kernel_rfl
  i171 := by kernel_rfl
  i173 := by kernel_rfl
  i175 := by kernel_rfl
  i210 := by kernel_rfl
  i212 := by kernel_rfl
  i232 := by kernel_rfl
  i233 := by kernel_rfl
  m15 := by kernel_rfl
  m16 := by kernel_rfl
  m17 := by kernel_rfl
  m18 := by kernel_rfl
  m19 := by kernel_rfl
  c0 := by kernel_rfl
  c2 := by kernel_rfl
  c3 := by kernel_rfl
  c4 := by kernel_rfl
  c5 := by kernel_rfl
  c9 := by kernel_rfl
  c20 := by kernel_rfl
  c21 := by kernel_rfl
  c37 := by kernel_rfl
  c46 := by kernel_rfl
  c51 := by kernel_rfl
  c53 := by kernel_rfl
  c75 := by kernel_rfl
  c80 := by kernel_rfl
  c85 := by kernel_rfl
  c127 := by kernel_rfl
  c143 := by kernel_rfl
  c145 := by kernel_rfl
  c167 := by kernel_rfl
  c168 := by kernel_rfl
  c171 := by kernel_rfl
  c173 := by kernel_rfl
  c175 := by kernel_rfl
  c210 := by kernel_rfl
  c212 := by kernel_rfl
  c213 := by kernel_rfl
  c232 := by kernel_rfl
  c233 := by kernel_rfl }
def lay_has_ren : Go.Shelf.Ren := ⟨fun | 99 => 115 | 206 => 126 | n => n, fun | 9 => 9 | 4 => 4 | 3 => 3 | n => n, fun | n => n⟩
theorem lay_has : Go.Proofs.Lays.n99 Tryz.prog lay_has_ren := {
  mixed := by kernel_rfl
  f99 := Tryz.func115.trans (congrArg some (by kernel_rfl))
  f206 := Tryz.func126.trans (congrArg some (by kernel_rfl))
  t3 := Tryz.underlying3
  a3 := Tryz.isAgg3
  z3 := Tryz.sizeOf3
  v3 := Tryz.zeroValue3
  t4 := Tryz.underlying4
  a4 := Tryz.isAgg4
  z4 := Tryz.sizeOf4
  v4 := Tryz.zeroValue4
  t9 := Tryz.underlying9
  a9 := Tryz.isAgg9
  z9 := Tryz.sizeOf9
  v9 := Tryz.zeroValue9 }
def lay_trm_ren : Go.Shelf.Ren := ⟨fun | 101 => 110 | 208 => 121 | 206 => 126 | n => n, fun | 9 => 9 | 4 => 4 | 3 => 3 | n => n, fun | n => n⟩
theorem lay_trm : Go.Proofs.Lays.n101 Tryz.prog lay_trm_ren := {
  mixed := by kernel_rfl
  f101 := Tryz.func110.trans (congrArg some (by kernel_rfl))
  f206 := Tryz.func126.trans (congrArg some (by kernel_rfl))
  f208 := Tryz.func121.trans (congrArg some (by kernel_rfl))
  t3 := Tryz.underlying3
  a3 := Tryz.isAgg3
  z3 := Tryz.sizeOf3
  v3 := Tryz.zeroValue3
  t4 := Tryz.underlying4
  a4 := Tryz.isAgg4
  z4 := Tryz.sizeOf4
  v4 := Tryz.zeroValue4
  t9 := Tryz.underlying9
  a9 := Tryz.isAgg9
  z9 := Tryz.sizeOf9
  v9 := Tryz.zeroValue9 }

end Go.Proofs.YtipgaafgnefmdaaGreatDoor


namespace Go.Proofs.YtipgaafgnefmdaaGreatDoor
set_option linter.unusedVariables false
set_option linter.unusedSimpArgs false
set_option maxRecDepth 100000
open Go.RowKit

theorem var_fr {S : Nat → Prop} {w w' : World} {n : String} {cs : Array Value} (hf : Fr S w w') (hn : ∀ g, Tryz.prog.globalNamed n = some g → ¬ S g) (h : w.var? Tryz.prog n = some cs) : w'.var? Tryz.prog n = some cs := by
  unfold World.var? at h ⊢
  cases hg : Tryz.prog.globalNamed n with
  | none => simp [hg] at h
  | some g =>
    simp only [hg, Option.bind_some] at h ⊢
    have hlt : g < w.heap.size := by
      rcases Nat.lt_or_ge g w.heap.size with h' | h'
      · exact h'
      · simp [Array.getElem?_eq_none h'] at h
    rw [hf.block g hlt (hn g hg)]
    exact h
/-- the variables lie as their texts lay them -/
structure Lw (w : World) : Prop where
  marks : ∀ j (h : j < marksL.length), w.cell? ⟨0, j, none⟩ = some (.string ⟨marksL[j].toArray⟩)
  most : ∃ m, w.cell? ⟨4, 0, none⟩ = some (.int .i64 m)
  pow : Lib.TabIs Tryz.prog w "internal/strconv.uint64pow10" .u64 Lib.pow10Tab
  esyn : ∃ tp p, w.var? Tryz.prog "strconv.ErrSyntax" = some #[.iface tp p]
  eran : ∃ tp p, w.var? Tryz.prog "strconv.ErrRange" = some #[.iface tp p]
theorem Lw.non {w w' : World} (h : Lw w) (hf : Fr Non w w') : Lw w' := by
  obtain ⟨h1, ⟨m, h2⟩, h3, ⟨t4, p4, h4⟩, t5, p5, h5⟩ := h
  have hc : ∀ (a : Addr) (v : Value), w.cell? a = some v → w'.cell? a = some v := fun a v hv => (hf.cell (World.block_lt_of_cell? w a hv) (fun e => e)).trans hv
  exact ⟨fun j hj => hc _ _ (h1 j hj), ⟨m, hc _ _ h2⟩, var_fr hf (fun _ _ e => e) h3, ⟨t4, p4, var_fr hf (fun _ _ e => e) h4⟩, t5, p5, var_fr hf (fun _ _ e => e) h5⟩
theorem Lw.alloc {w : World} (h : Lw w) (o : Obj) : Lw (w.alloc o) := h.non ((Fr.refl _ _).alloc o)
theorem Lw.drew {w : World} (h : Lw w) : Lw w.drew := h.non (Fr.refl _ _).drew

/-! ### The library -/
theorem extra_rep : Builder.Extra Tryz.prog lay_rep_ren := {
  sizeBuilder := by kernel_rfl
  liesBuilder := by kernel_rfl
  t5 := lay_rep.t5
  a5 := lay_rep.a5
  z5 := lay_rep.z5
  v5 := lay_rep.v5
  infoByte := by kernel_rfl
  cellsByte := by kernel_rfl
  sizeByte := by kernel_rfl
  neB5 := by decide }
theorem lsize (l : List UInt8) : ByteArray.size ⟨l.toArray⟩ = l.length := by simp [ByteArray.size]
theorem srep_any (s old new : List UInt8) (w : World) (hw : Lw w) (hs : s.length ≤ 1000000) (h1 : 1 ≤ old.length) (hn : new.length ≤ 4) :
    Calls Tryz.prog 114 #[.string ⟨s.toArray⟩, .string ⟨old.toArray⟩, .string ⟨new.toArray⟩] w fun e w' => e = .returned (.string ⟨(Lib.replaceAll s old new).toArray⟩) ∧ Fr Non w w' := by
  obtain ⟨m, hm⟩ := hw.most
  have hc : Lib.countB ⟨s.toArray⟩ ⟨old.toArray⟩ ≤ s.length + 1 := by
    have : Lib.countB ⟨s.toArray⟩ ⟨old.toArray⟩ = Lib.count s old := by simp [Lib.countB]
    rw [this]; exact count_len s old
  have hmul : Lib.countB ⟨s.toArray⟩ ⟨old.toArray⟩ * new.length ≤ (s.length + 1) * 4 := Nat.mul_le_mul hc hn
  have c := Go.Proofs.Any.strings_ReplaceAll lay_rep extra_rep ⟨s.toArray⟩ ⟨old.toArray⟩ ⟨new.toArray⟩ m w (by rw [lsize]; omega) hm (by rw [lsize]; exact h1) (by rw [lsize, lsize]; omega)
  exact c.mono fun e w' ⟨h1, h2⟩ => ⟨by simpa using h1, Fr.of_below h2⟩
theorem sfmt_any (n : Int) (w : World) (hw : Lw w) (hn : I64b n) :
    Calls Tryz.prog 124 #[.int .i64 n, .int .i64 10] w fun e w' => e = .returned (.string ⟨(Lib.itoa n).toArray⟩) ∧ Fr Non w w' :=
  (Go.Proofs.Any.strconv_FormatInt_10 lay_fmt n hn.1 hn.2 w hw.pow).mono fun e w' ⟨h1, k, os, h2⟩ => ⟨h1, by subst h2; exact Fr.of_below (Lib.below_grow _ w (Nat.le_refl _) k os)⟩
/-- how a parse ends -/
def PrsEnd (l : List UInt8) (e : Ending) : Prop := (∃ v, Lib.parseIntB 64 l = .ok v ∧ e = .returned (.tuple #[.int .i64 v, .nilIface])) ∨ ((∀ v, Lib.parseIntB 64 l ≠ .ok v) ∧ ∃ x t p, e = .returned (.tuple #[.int .i64 x, .iface t p]))
theorem sprs_any (s : List UInt8) (w : World) (hw : Lw w) (hs : s.length ≤ 1000000) :
    Calls Tryz.prog 111 #[.string ⟨s.toArray⟩, .int .i64 10, .int .i64 64] w fun e w' => PrsEnd s e ∧ Fr Non w w' := by
  obtain ⟨t4, p4, h4⟩ := hw.esyn
  obtain ⟨t5, p5, h5⟩ := hw.eran
  rcases h : Lib.parseIntB 64 s with v | _ | _
  · refine (Go.Proofs.Any.strconv_ParseInt_10_at64_ok lay_prs ⟨s.toArray⟩ (by rw [lsize]; omega) v (by simpa using h) w).mono fun e w' ⟨h1, h2⟩ => ⟨.inl ⟨v, h, h1⟩, ?_⟩
    rcases h2 with rfl | ⟨t, rfl⟩
    · exact Fr.refl _ _
    · exact Fr.of_below (Go.Joins.below_bytesWorld _ w _ t (Nat.le_refl _))
  · refine (Go.Proofs.Any.strconv_ParseInt_10_at64_syntax_var lay_prs ⟨s.toArray⟩ (by rw [lsize]; omega) (by simpa using h) t4 p4 w h4).mono fun e w' ⟨N, h1, _, _, h2⟩ => ⟨.inr ⟨fun v hv => (by rw [h] at hv; cases hv), _, _, _, h1⟩, Fr.of_below h2⟩
  · refine (Go.Proofs.Any.strconv_ParseInt_10_at64_range_var lay_prs ⟨s.toArray⟩ (by rw [lsize]; omega) (by simpa using h) t5 p5 w h5).mono fun e w' ⟨N, h1, _, _, h2⟩ => ⟨.inr ⟨fun v hv => (by rw [h] at hv; cases hv), _, _, _, h1⟩, Fr.of_below h2⟩
theorem shas_any (s p : List UInt8) (w : World) : Calls Tryz.prog 115 #[.string ⟨s.toArray⟩, .string ⟨p.toArray⟩] w fun e w' => e = .returned (.bool (p.isPrefixOf s)) ∧ w = w' :=
  (Go.Proofs.Any.strings_HasPrefix lay_has ⟨s.toArray⟩ ⟨p.toArray⟩ w).mono fun e w' ⟨h1, h2⟩ => ⟨by simpa [Lib.hasPrefix] using h1, h2.symm⟩
theorem strm_any (s p : List UInt8) (w : World) : Calls Tryz.prog 110 #[.string ⟨s.toArray⟩, .string ⟨p.toArray⟩] w fun e w' => e = .returned (.string ⟨(Lib.trimPrefix s p).toArray⟩) ∧ w = w' :=
  (Go.Proofs.Any.strings_TrimPrefix lay_trm ⟨s.toArray⟩ ⟨p.toArray⟩ w).mono fun e w' ⟨h1, h2⟩ => ⟨by simpa using h1, h2.symm⟩
end Go.Proofs.YtipgaafgnefmdaaGreatDoor


namespace Go.Proofs.YtipgaafgnefmdaaGreatDoor
set_option linter.unusedVariables false
set_option linter.unusedSimpArgs false
set_option maxRecDepth 100000
open Go.RowKit

/-- in block k lies an iterator over the text l, at place p -/
def ItU (w : World) (k : Nat) (l : List UInt8) (p : Nat) : Prop := w.heap[k]? = some (.stringIter ⟨l.toArray⟩ p)
theorem sizeU (l : List UInt8) : ByteArray.size ⟨l.toArray⟩ = l.length := by simp [ByteArray.size]
theorem ItU.new (w : World) (l : List UInt8) : ItU (w.iter ⟨l.toArray⟩ 0) w.heap.size l 0 := World.iter_heap w _ 0
theorem ItU.pos {w : World} {k p : Nat} {l : List UInt8} (h : ItU w k l p) : w.iterPos k = p := by
  unfold ItU at h; simp [World.iterPos, h]
theorem ItU.lt {w : World} {k p : Nat} {l : List UInt8} (h : ItU w k l p) : k < w.heap.size := (Array.getElem?_eq_some_iff.1 h).1
theorem ItU.fr {S : Nat → Prop} {w w' : World} {k p : Nat} {l : List UInt8} (h : ItU w k l p) (hf : Fr S w w') (hn : ¬ S k) : ItU w' k l p := (hf.block k h.lt hn).trans h
theorem fr_iterAt (w : World) (k : Nat) (s : ByteArray) (p : Nat) : Fr (One k) w (w.iterAt k s p) :=
  ⟨rfl, rfl, rfl, by rw [Lib.iterAt_size]; exact Nat.le_refl _, fun j _ hj => Lib.iterAt_other w k j s p hj⟩
/-- a step of the range -/
theorem nextU (wr : World) (k p : Nat) (l : List UInt8) (h : ItU wr k l p) (hp : p < l.length) :
    ∃ W, (∀ ty, (Instr.next (.pointer (some ⟨k, 0, none⟩)) true ty).run Tryz.prog wr = .ok (.tuple #[.bool true, .int .i64 p, .int .i32 ((dcU (l.drop p)).1 : Int)]) W) ∧
      ItU W k l (p + (dcU (l.drop p)).2) ∧ Fr (One k) wr W := by
  refine ⟨wr.iterAt k ⟨l.toArray⟩ (p + (dcU (l.drop p)).2), fun ty => ?_, Lib.iterAt_heap wr k _ p _ h, fr_iterAt _ _ _ _⟩
  rw [← dcU_at]
  exact Lib.run_next_any_at wr k _ p ty h (by rw [sizeU]; exact hp)
theorem nextU_end (wr : World) (k p : Nat) (l : List UInt8) (h : ItU wr k l p) (hp : ¬ p < l.length) (ty : TypeId) :
    (Instr.next (.pointer (some ⟨k, 0, none⟩)) true ty).run Tryz.prog wr = .ok (.tuple #[.bool false]) wr :=
  Lib.run_next_end_at wr k _ p ty h (by rw [sizeU]; exact hp)
end Go.Proofs.YtipgaafgnefmdaaGreatDoor


namespace Go.Proofs.YtipgaafgnefmdaaGreatDoor
set_option linter.unusedVariables false
set_option linter.unusedSimpArgs false
set_option maxRecDepth 100000
open Go.RowKit

theorem wletter_any (r : Nat) (w : World) : Calls Tryz.prog 92 #[.int .i32 r] w fun e w' => e = .returned (.bool (letR r)) ∧ w = w' := by
  go_enter Tryz.func92, Tryz.ntmps92
  go_wp2
  all_goals
    go_ret
    refine ⟨?_, rfl⟩
    unfold letR
    refine congrArg (fun b => Ending.returned (Value.bool b)) ?_
    rw [Bool.eq_iff_iff]
    simp at *
    try omega
theorem wdigit_any (r : Nat) (w : World) : Calls Tryz.prog 94 #[.int .i32 r] w fun e w' => e = .returned (.bool (digR r)) ∧ w = w' := by
  go_enter Tryz.func94, Tryz.ntmps94
  go_wp2
  all_goals
    go_ret
    refine ⟨?_, rfl⟩
    unfold digR
    refine congrArg (fun b => Ending.returned (Value.bool b)) ?_
    rw [Bool.eq_iff_iff]
    simp at *
    try omega
theorem wblank_any (r : Nat) (w : World) : Calls Tryz.prog 68 #[.int .i32 r] w fun e w' => e = .returned (.bool (blkR r)) ∧ w = w' := by
  go_enter Tryz.func68, Tryz.ntmps68
  go_wp2
  all_goals
    go_ret
    refine ⟨?_, rfl⟩
    unfold blkR
    refine congrArg (fun b => Ending.returned (Value.bool b)) ?_
    rw [Bool.eq_iff_iff]
    simp at *
    try omega
theorem winner_any (r : Nat) (w : World) : Calls Tryz.prog 109 #[.int .i32 r] w fun e w' => e = .returned (.bool (innR r)) ∧ w = w' := by
  have HL := Lib.hid (fun V => wletter_any r V)
  have HD := Lib.hid (fun V => wdigit_any r V)
  go_enter Tryz.func109, Tryz.ntmps109
  go_wp2_with (first
    | (go_at_call 92; refine (HL.out _).mono ?_; rintro e w1 ⟨rfl, rfl⟩)
    | (go_at_call 94; refine (HD.out _).mono ?_; rintro e w1 ⟨rfl, rfl⟩))
  all_goals
    go_ret
    refine ⟨?_, rfl⟩
    unfold innR
    refine congrArg (fun b => Ending.returned (Value.bool b)) ?_
    rw [Bool.eq_iff_iff]
    simp [*]
    try omega

/-! ### How far -/
def spR (q : Nat → Bool) (p : UInt8 → Bool) : Prop := (∀ c r, q (dcU (c :: r)).1 = p c) ∧ ∀ c, p c = true → c.toNat < 128
theorem drop_is {l : List UInt8} {k : Nat} (h : k < l.length) : ∃ c r, l.drop k = c :: r ∧ l[k]? = some c ∧ r = l.drop (k + 1) :=
  ⟨l[k], l.drop (k + 1), (List.drop_eq_getElem_cons h), by simp [h], rfl⟩
theorem sp_more {q : Nat → Bool} {p : UInt8 → Bool} (h : spR q p) {l : List UInt8} {k : Nat} (hk : k < l.length) (hs : spanN p l = k + spanN p (l.drop k)) (hq : q (dcU (l.drop k)).1 = true) :
    spanN p l = k + (dcU (l.drop k)).2 + spanN p (l.drop (k + (dcU (l.drop k)).2)) ∧ (dcU (l.drop k)).2 = 1 := by
  obtain ⟨c, r, e, _, hr⟩ := drop_is hk
  rw [e] at hq hs ⊢
  have hp : p c = true := by rw [← h.1 c r]; exact hq
  rw [dcU_low r (h.2 c hp), ← hr]
  rw [span_yes hp] at hs
  exact ⟨by simp only; omega, rfl⟩
theorem sp_stop {q : Nat → Bool} {p : UInt8 → Bool} (h : spR q p) {l : List UInt8} {k : Nat} (hk : k < l.length) (hs : spanN p l = k + spanN p (l.drop k)) (hq : q (dcU (l.drop k)).1 = false) : spanN p l = k := by
  obtain ⟨c, r, e, _, hr⟩ := drop_is hk
  rw [e] at hq hs
  have hp : p c = false := by rw [← h.1 c r]; exact hq
  rw [span_no hp] at hs
  omega
theorem sp_end {p : UInt8 → Bool} {l : List UInt8} {k : Nat} (hk : ¬ k < l.length) (hk2 : k ≤ l.length) (hs : spanN p l = k + spanN p (l.drop k)) : spanN p l = l.length := by
  rw [List.drop_eq_nil_of_le (by omega)] at hs
  simp [spanN] at hs
  omega
theorem sp_inn : spR innR innB := ⟨inn_rune, fun _ => innB_lo⟩
theorem sp_dig : spR digR digB := ⟨dig_rune, fun _ => digB_lo⟩

set_option maxHeartbeats 1000000 in
theorem while_inn (l : List UInt8) (w : World) (hl : l.length ≤ 1000000000) : Calls Tryz.prog 108 #[.func (.func 109) #[] #[], .string ⟨l.toArray⟩] w fun e w' => e = .returned (.int .i64 (spanN innB l : Nat)) ∧ Fr Non w w' := by
  go_enter Tryz.func108, Tryz.ntmps108
  go_wp2
  go_loopw [] (fun wr => ∃ k, k ≤ l.length ∧ ItU wr w.heap.size l k ∧ Fr Non w wr ∧ Hid (spanN innB l = k + spanN innB (l.drop k))) (fun wr => l.length - wr.iterPos w.heap.size)
  case atStart => exact ⟨0, by omega, ItU.new w l, (Fr.refl _ _).alloc _, Lib.hid (by simp)⟩
  case round =>
    obtain ⟨k, hk, hit, hfr, hd⟩ := hrel
    have hp0 := hit.pos
    by_cases hlt : k < l.length
    · obtain ⟨W, hnx, hitW, hfW⟩ := nextU wr w.heap.size k l hit hlt
      have hfrW := hfr.fresh hfW (fun q e => by have : q = w.heap.size := e; omega)
      have HC := Lib.hid (fun V => winner_any (dcU (l.drop k)).1 V)
      have hw := dcU_w (l := l.drop k) (by intro e; have := congrArg List.length e; simp at this; omega)
      rw [List.length_drop] at hw
      cases hq : innR (dcU (l.drop k)).1 with
      | true =>
        have HM := Lib.hid (sp_more sp_inn hlt hd.out hq).1
        rw [hq] at HC
        clear hd hit hfr hfW hq
        generalize (dcU (l.drop k)).1 = r at *
        generalize hq : k + (dcU (l.drop k)).2 = q at *
        have hkq : k < q := by omega
        have hql : q ≤ l.length := by omega
        clear hq hw
        go_wp2_with (refine (HC.out _).mono ?_; rintro e w1 ⟨rfl, rfl⟩)
        clear HC
        go_roundw
        case rel => exact ⟨q, hql, hitW, hfrW, HM⟩
        case measure => rw [hp0, hitW.pos]; omega
      | false =>
        have HE := Lib.hid (sp_stop sp_inn hlt hd.out hq)
        rw [hq] at HC
        clear hd hit hfr hfW hq
        generalize (dcU (l.drop k)).1 = r at *
        clear hw
        go_wp2_with (refine (HC.out _).mono ?_; rintro e w1 ⟨rfl, rfl⟩)
        go_ret
        exact ⟨by rw [HE.out]; rfl, hfrW⟩
    · have hnx := fun ty => nextU_end wr w.heap.size k l hit hlt ty
      have HE := Lib.hid (sp_end hlt hk hd.out)
      clear hd
      go_wp2
      go_ret
      exact ⟨by rw [HE.out]; rfl, hfr⟩

set_option maxHeartbeats 1000000 in
theorem while_dig (l : List UInt8) (w : World) (hl : l.length ≤ 1000000000) : Calls Tryz.prog 108 #[.func (.func 94) #[] #[], .string ⟨l.toArray⟩] w fun e w' => e = .returned (.int .i64 (spanN digB l : Nat)) ∧ Fr Non w w' := by
  go_enter Tryz.func108, Tryz.ntmps108
  go_wp2
  go_loopw [] (fun wr => ∃ k, k ≤ l.length ∧ ItU wr w.heap.size l k ∧ Fr Non w wr ∧ Hid (spanN digB l = k + spanN digB (l.drop k))) (fun wr => l.length - wr.iterPos w.heap.size)
  case atStart => exact ⟨0, by omega, ItU.new w l, (Fr.refl _ _).alloc _, Lib.hid (by simp)⟩
  case round =>
    obtain ⟨k, hk, hit, hfr, hd⟩ := hrel
    have hp0 := hit.pos
    by_cases hlt : k < l.length
    · obtain ⟨W, hnx, hitW, hfW⟩ := nextU wr w.heap.size k l hit hlt
      have hfrW := hfr.fresh hfW (fun q e => by have : q = w.heap.size := e; omega)
      have HC := Lib.hid (fun V => wdigit_any (dcU (l.drop k)).1 V)
      have hw := dcU_w (l := l.drop k) (by intro e; have := congrArg List.length e; simp at this; omega)
      rw [List.length_drop] at hw
      cases hq : digR (dcU (l.drop k)).1 with
      | true =>
        have HM := Lib.hid (sp_more sp_dig hlt hd.out hq).1
        rw [hq] at HC
        clear hd hit hfr hfW hq
        generalize (dcU (l.drop k)).1 = r at *
        generalize hq : k + (dcU (l.drop k)).2 = q at *
        have hkq : k < q := by omega
        have hql : q ≤ l.length := by omega
        clear hq hw
        go_wp2_with (refine (HC.out _).mono ?_; rintro e w1 ⟨rfl, rfl⟩)
        clear HC
        go_roundw
        case rel => exact ⟨q, hql, hitW, hfrW, HM⟩
        case measure => rw [hp0, hitW.pos]; omega
      | false =>
        have HE := Lib.hid (sp_stop sp_dig hlt hd.out hq)
        rw [hq] at HC
        clear hd hit hfr hfW hq
        generalize (dcU (l.drop k)).1 = r at *
        clear hw
        go_wp2_with (refine (HC.out _).mono ?_; rintro e w1 ⟨rfl, rfl⟩)
        go_ret
        exact ⟨by rw [HE.out]; rfl, hfrW⟩
    · have hnx := fun ty => nextU_end wr w.heap.size k l hit hlt ty
      have HE := Lib.hid (sp_end hlt hk hd.out)
      clear hd
      go_wp2
      go_ret
      exact ⟨by rw [HE.out]; rfl, hfr⟩
end Go.Proofs.YtipgaafgnefmdaaGreatDoor


namespace Go.Proofs.YtipgaafgnefmdaaGreatDoor
set_option linter.unusedVariables false
set_option linter.unusedSimpArgs false
set_option maxRecDepth 100000
open Go.RowKit

theorem ext_from (l : List UInt8) (k : Nat) (hk : k ≤ l.length) : (⟨l.toArray⟩ : ByteArray).extract k l.length = ⟨(l.drop k).toArray⟩ := by
  apply ByteArray.ext
  simp
  exact List.take_of_length_le (by simp)
theorem ext_to (l : List UInt8) (k : Nat) : (⟨l.toArray⟩ : ByteArray).extract 0 k = ⟨(l.take k).toArray⟩ := by
  apply ByteArray.ext
  simp
theorem ext_mid (l : List UInt8) (j k : Nat) : (⟨l.toArray⟩ : ByteArray).extract j k = ⟨((l.drop j).take (k - j)).toArray⟩ := by
  apply ByteArray.ext
  simp

/-- where a text ends, as the program says it -/
def clE (r : List UInt8) : Nat := match clB false r with
  | none => 0
  | some n => n + 1
/-- so far: e: a quote alone was seen last -/
def clI (r : List UInt8) (e : Bool) (k : Nat) : Prop := clB false r = (clB e (r.drop k)).map (· + k)
theorem cl_wide : ∀ (n : Nat) (l : List UInt8), (∀ j, j < n → 128 ≤ (l.getD j 0).toNat) → n ≤ l.length → clB false l = (clB false (l.drop n)).map (· + n)
  | 0, l, _, _ => by simp
  | n + 1, [], _, h => by simp at h
  | n + 1, c :: l, h, hn => by
    have hc := h 0 (by omega)
    have hc' : c ≠ 39 := by intro e; subst e; simp at hc
    rw [clB, if_neg hc']
    simp only [Bool.false_eq_true, if_false, List.drop_succ_cons]
    rw [cl_wide n l (fun j hj => by have := h (j + 1) (by omega); simpa using this) (by simpa using hn)]
    cases clB false (l.drop n) <;> simp; omega
theorem cl_quote {r : List UInt8} {e : Bool} {k : Nat} (h : clI r e k) (hk : k < r.length) (hq : (dcU (r.drop k)).1 = 39) : clI r (!e) (k + (dcU (r.drop k)).2) ∧ (dcU (r.drop k)).2 = 1 := by
  obtain ⟨c, r', hd, _, hr⟩ := drop_is hk
  unfold clI at h ⊢
  rw [hd] at h hq ⊢
  have hc : c = 39 := (is_rune 39 (by omega) c r').1 hq
  subst hc
  rw [dcU_low r' (by decide)]
  refine ⟨?_, rfl⟩
  rw [h, clB, if_pos rfl, ← hr]
  cases clB (!e) r' <;> simp; omega
theorem cl_other {r : List UInt8} {k : Nat} (h : clI r false k) (hk : k < r.length) (hq : (dcU (r.drop k)).1 ≠ 39) : clI r false (k + (dcU (r.drop k)).2) := by
  obtain ⟨c, r', hd, _, hr⟩ := drop_is hk
  unfold clI at h ⊢
  rw [← List.drop_drop]
  have hw := dcU_w (l := r.drop k) (by rw [hd]; simp)
  rw [h]
  rcases lo_or_hi c with hc | hc
  · rw [hd, dcU_low r' hc] at hq ⊢
    have hc' : c ≠ 39 := by intro e; subst e; exact hq rfl
    simp only [List.drop_succ_cons, List.drop_zero]
    rw [clB, if_neg hc']
    simp only [Bool.false_eq_true, if_false]
    cases clB false r' <;> simp; omega
  · have hh := (dcU_hi (c := c) (r := r') hc).2
    rw [← hd] at hh
    rw [cl_wide (dcU (r.drop k)).2 (r.drop k) hh hw.2]
    cases clB false ((r.drop k).drop (dcU (r.drop k)).2) <;> simp; omega
theorem cl_stop {r : List UInt8} {k : Nat} (h : clI r true k) (hk : k < r.length) (hq : (dcU (r.drop k)).1 ≠ 39) : clE r = k + 1 := by
  obtain ⟨c, r', hd, _, hr⟩ := drop_is hk
  unfold clI at h
  rw [hd] at h hq
  have hc' : c ≠ 39 := by intro e; subst e; exact hq ((is_rune 39 (by omega) _ r').2 rfl)
  rw [clB, if_neg hc'] at h
  simp at h
  unfold clE; rw [h]
theorem cl_end {r : List UInt8} {e : Bool} {k : Nat} (h : clI r e k) (hk : ¬ k < r.length) (hk2 : k ≤ r.length) : clE r = if e then r.length + 1 else 0 := by
  unfold clI at h
  rw [List.drop_eq_nil_of_le (by omega), clB] at h
  unfold clE
  rw [h]
  cases e <;> simp; omega

set_option maxHeartbeats 1000000 in
theorem closed_any (l : List UInt8) (w : World) (h1 : 1 ≤ l.length) (hl : l.length ≤ 1000000000) : Calls Tryz.prog 113 #[.string ⟨l.toArray⟩] w fun e w' => e = .returned (.int .i64 (clE (l.drop 1) : Nat)) ∧ Fr Non w w' := by
  have hx := ext_from l 1 h1
  have hd1 : (l.drop 1).length + 1 = l.length := by rw [List.length_drop]; omega
  have HL := Lib.hid hd1
  clear hd1
  generalize l.drop 1 = r at *
  go_enter Tryz.func113, Tryz.ntmps113
  go_wp2
  clear hx
  go_loopw [3] (fun v wr => ∃ k e, v = .bool e ∧ k ≤ r.length ∧ ItU wr w.heap.size r k ∧ Fr Non w wr ∧ Hid (clI r e k)) (fun _ wr => r.length - wr.iterPos w.heap.size)
  case atStart => exact ⟨0, false, rfl, by omega, ItU.new w r, (Fr.refl _ _).alloc _, Lib.hid (by unfold clI; simp)⟩
  case round =>
    obtain ⟨k, e, rfl, hk, hit, hfr, hd⟩ := hrel
    have hp0 := hit.pos
    have hL := HL.out
    by_cases hlt : k < r.length
    · obtain ⟨W, hnx, hitW, hfW⟩ := nextU wr w.heap.size k r hit hlt
      have hfrW := hfr.fresh hfW (fun q e => by have : q = w.heap.size := e; omega)
      have hw := dcU_w (l := r.drop k) (by intro e; have := congrArg List.length e; simp at this; omega)
      rw [List.length_drop] at hw
      by_cases hq : (dcU (r.drop k)).1 = 39
      · have HM := Lib.hid (cl_quote hd.out hlt hq).1
        rw [hq] at hnx
        clear hd hit hfr hfW hq
        generalize hq : k + (dcU (r.drop k)).2 = q at *
        have hkq : k < q := by omega
        have hql : q ≤ r.length := by omega
        clear hq hw
        go_wp2
        go_roundw
        case rel => exact ⟨q, !e, rfl, hql, hitW, hfrW, HM⟩
        case measure => rw [hp0, hitW.pos]; omega
      · have hqb : (((dcU (r.drop k)).1 : Int) == 39) = false := by rw [beq_eq_false_iff_ne]; omega
        cases e with
        | false =>
          have HM := Lib.hid (cl_other hd.out hlt hq)
          clear hd hit hfr hfW hq
          generalize (dcU (r.drop k)).1 = x at *
          generalize hq : k + (dcU (r.drop k)).2 = q at *
          have hkq : k < q := by omega
          have hql : q ≤ r.length := by omega
          clear hq hw
          go_wp2
          go_roundw
          case rel => exact ⟨q, false, rfl, hql, hitW, hfrW, HM⟩
          case measure => rw [hp0, hitW.pos]; omega
        | true =>
          have HE := Lib.hid (cl_stop hd.out hlt hq)
          clear hd hit hfr hfW hq
          generalize (dcU (r.drop k)).1 = x at *
          clear hw
          go_wp2
          go_ret
          refine ⟨ret_int ?_, hfrW⟩
          rw [HE.out]; push_cast; omega
    · have hnx := fun ty => nextU_end wr w.heap.size k r hit hlt ty
      have HE := Lib.hid (cl_end hd.out hlt hk)
      clear hd
      cases e with
      | true =>
        go_wp2
        go_ret
        refine ⟨ret_int ?_, hfr⟩
        rw [HE.out]; simp; omega
      | false =>
        go_wp2
        go_ret
        refine ⟨ret_int ?_, hfr⟩
        rw [HE.out]; simp
end Go.Proofs.YtipgaafgnefmdaaGreatDoor


namespace Go.Proofs.YtipgaafgnefmdaaGreatDoor
set_option linter.unusedVariables false
set_option linter.unusedSimpArgs false
set_option maxRecDepth 100000
open Go.RowKit

/-- how a word is told -/
def TkEnd (x : Option (Tk × Nat)) (e : Ending) : Prop := match x with
  | none => ∃ t, e = .returned (.tuple #[tkV t, .int .i64 0])
  | some (t, n) => e = .returned (.tuple #[tkV t, .int .i64 (n : Nat)])
theorem tk_end1 (t : Tk) (n : Nat) : TkEnd (some (t, n + 1)) (.returned (.tuple #[tkV t, .int .i64 ((n : Int) + 1)])) := by
  show _ = Ending.returned (.tuple #[tkV t, .int .i64 ((n + 1 : Nat) : Int)])
  push_cast; rfl
theorem clE_none {r : List UInt8} (h : qtB r = none) : clE r = 0 := by unfold clE; rw [qt_cl, h]; rfl
theorem clE_some {r : List UInt8} {x : List UInt8 × Nat} (h : qtB r = some x) : clE r = x.2 + 1 := by unfold clE; rw [qt_cl, h]; rfl

set_option maxHeartbeats 1000000 in
theorem wtext_any (l : List UInt8) (w : World) (hW : Lw w) (h1 : 1 ≤ l.length) (hl : l.length ≤ 1000000) : Calls Tryz.prog 96 #[.string ⟨l.toArray⟩] w fun e w' => TkEnd ((qtB (l.drop 1)).map fun x => (⟨3, x.1, 0, 0⟩, x.2 + 1)) e ∧ Fr Non w w' := by
  have HC := Lib.hid (fun V => closed_any l V h1 (by omega))
  cases hq : qtB (l.drop 1) with
  | none =>
    rw [clE_none hq] at HC
    go_enter Tryz.func96, Tryz.ntmps96
    go_wp2_with fail
    refine (HC.out _).mono ?_
    rintro e w1 ⟨rfl, hf1⟩
    obtain ⟨hB, hf⟩ := tkW_after hf1
    obtain ⟨c0, c1, c2, c3, z0, z1, z2, z3⟩ := hB.facts
    dsimp only [noTk] at c0 c1 c2 c3
    have HB := Lib.hid hB
    have HF := Lib.hid hf
    clear hf1 HC hq hB hf
    go_wp2
    exact bodyPost_ret (ret_tkW (p := 2) (u := 3) rfl _ _ w.heap.size noTk (.int .i64 0) rfl rfl (setTk_W HB.out noTk)) rfl ⟨⟨noTk, rfl⟩, setTk_end HF.out noTk⟩
  | some x =>
    rw [clE_some hq] at HC
    obtain ⟨q1, q2, _, q4, _⟩ := qt_le _ x hq
    rw [List.length_drop] at q2
    have hx := ext_mid l 1 x.2
    have HR := Lib.hid (fun V h => srep_any ((l.drop 1).take (x.2 - 1)) [39, 39] [39] V h (by simp; omega) (by simp) (by simp))
    rw [unq_rep, ← q4] at HR
    have HL := Lib.hid hW
    clear hq q4
    generalize (l.drop 1).take (x.2 - 1) = m at *
    obtain ⟨t, n⟩ := x
    dsimp only at *
    have hb : ((n + 1 : Nat) : Int) ≤ l.length := by omega
    go_enter Tryz.func96, Tryz.ntmps96
    go_wp2_with fail
    refine (HC.out _).mono ?_
    rintro e w1 ⟨rfl, hf1⟩
    have HF1 := Lib.hid hf1
    clear hf1 HC
    go_wp2_with fail
    refine (HR.out _ (HL.out.non (((Fr.refl Non w).alloc _).then HF1.out))).mono ?_
    rintro e w2 ⟨rfl, hf2⟩
    obtain ⟨hB, hf⟩ := tkW_after (HF1.out.trans hf2)
    obtain ⟨c0, c1, c2, c3, z0, z1, z2, z3⟩ := hB.facts
    dsimp only [noTk] at c0 c1 c2 c3
    have HB := Lib.hid hB
    have HF := Lib.hid hf
    clear hf2 HF1 HL HR hB hf
    go_wp2
    exact bodyPost_ret (ret_tkW (p := 2) (u := 3) rfl _ _ w.heap.size ⟨3, t, 0, 0⟩ (.int .i64 ((n : Int) + 1)) rfl rfl (setTk_W HB.out ⟨3, t, 0, 0⟩)) rfl ⟨tk_end1 ⟨3, t, 0, 0⟩ n, setTk_end HF.out ⟨3, t, 0, 0⟩⟩
end Go.Proofs.YtipgaafgnefmdaaGreatDoor


namespace Go.Proofs.YtipgaafgnefmdaaGreatDoor
set_option linter.unusedVariables false
set_option linter.unusedSimpArgs false
set_option maxRecDepth 100000
open Go.RowKit

set_option maxHeartbeats 1000000 in
theorem wname_any (l : List UInt8) (w : World) (hl : l.length ≤ 1000000) : Calls Tryz.prog 93 #[.string ⟨l.toArray⟩] w fun e w' => TkEnd (some (⟨1, l.take (spanN innB l), 0, 0⟩, spanN innB l)) e ∧ Fr Non w w' := by
  have HC := Lib.hid (fun V => while_inn l V (by omega))
  have hn := span_le innB l
  have hx := ext_to l (spanN innB l)
  generalize spanN innB l = n at *
  generalize l.take n = m at *
  go_enter Tryz.func93, Tryz.ntmps93
  go_wp2_with fail
  refine (HC.out _).mono ?_
  rintro e w1 ⟨rfl, hf1⟩
  obtain ⟨hB, hf⟩ := tkW_after hf1
  obtain ⟨c0, c1, c2, c3, z0, z1, z2, z3⟩ := hB.facts
  dsimp only [noTk] at c0 c1 c2 c3
  have HB := Lib.hid hB
  have HF := Lib.hid hf
  clear hf1 HC hB hf
  go_wp2
  exact bodyPost_ret (ret_tkW (p := 2) (u := 3) rfl _ _ w.heap.size ⟨1, m, 0, 0⟩ (.int .i64 (n : Int)) rfl rfl (setTk_W HB.out ⟨1, m, 0, 0⟩)) rfl ⟨rfl, setTk_end HF.out ⟨1, m, 0, 0⟩⟩

theorem wdigits_any (n : Int) (w : World) (hW : Lw w) (hn : I64b n) : Calls Tryz.prog 112 #[.int .i64 n] w fun e w' => e = .returned (.string ⟨(Lib.itoa n).toArray⟩) ∧ Fr Non w w' := by
  have H := Lib.hid (sfmt_any n w hW hn)
  go_enter Tryz.func112, Tryz.ntmps112
  go_wp2_with fail
  refine H.out.mono ?_
  rintro e w1 ⟨rfl, hf1⟩
  have HF := Lib.hid hf1
  clear hf1 H
  go_wp2
  go_ret
  exact ⟨rfl, HF.out⟩

/-- of how many bytes a number is -/
def sgnN (l : List UInt8) : Nat := if [45].isPrefixOf l then 1 else 0
def nszN (l : List UInt8) : Nat := sgnN l + spanN digB (l.drop (sgnN l))
theorem nsz_le (l : List UInt8) : sgnN l ≤ l.length ∧ nszN l ≤ l.length := by
  have h1 : sgnN l ≤ l.length := by
    unfold sgnN
    cases l with
    | nil => simp
    | cons c r => split <;> simp
  have := span_le digB (l.drop (sgnN l))
  rw [List.length_drop] at this
  unfold nszN
  exact ⟨h1, by omega⟩
theorem nsz_is {c : UInt8} {r : List UInt8} (h : (digB c || decide (c = 45)) = true) : nszN (c :: r) = 1 + spanN digB r := by
  unfold nszN sgnN
  by_cases hc : c = 45
  · subst hc
    rw [if_pos (by simp [List.isPrefixOf])]; rfl
  · rw [if_neg (by simp [List.isPrefixOf]; exact fun e => hc e.symm)]
    have hd : digB c = true := by simpa [hc] using h
    show 0 + spanN digB (c :: r) = _
    rw [span_yes hd]; omega
theorem trm_len (l : List UInt8) : (Lib.trimPrefix l [45]).length + sgnN l = l.length := by
  unfold Lib.trimPrefix Lib.hasPrefix sgnN
  split
  · rename_i h
    cases l with
    | nil => simp [List.isPrefixOf] at h
    | cons c r => simp
  · simp
theorem val_ok {l : List UInt8} {v : Int} (h : Lib.parseIntB 64 l = .ok v) : valB l = (if Lib.itoa v = l then some v else none) ∧ I64b v := by
  have hb := Lib.parseIntB_bounds h
  have e : (2 ^ (64 - 1) : Nat) = 9223372036854775808 := rfl
  rw [e] at hb
  refine ⟨?_, by unfold I64b; omega⟩
  unfold valB; rw [h]
theorem val_bad {l : List UInt8} (h : ∀ v, Lib.parseIntB 64 l ≠ .ok v) : valB l = none := by
  unfold valB
  rcases hp : Lib.parseIntB 64 l with v | _ | _
  · exact absurd hp (h v)
  · rfl
  · rfl

set_option maxHeartbeats 1000000 in
theorem wnumber_any (l : List UInt8) (w : World) (hW : Lw w) (hl : l.length ≤ 1000000) : Calls Tryz.prog 95 #[.string ⟨l.toArray⟩] w fun e w' => TkEnd ((valB (l.take (nszN l))).map fun v => (⟨2, [], v, 0⟩, nszN l)) e ∧ Fr Non w w' := by
  have HT := Lib.hid (fun V => strm_any l [45] V)
  have ht := trm_len l
  obtain ⟨hs, hn⟩ := nsz_le l
  have hx1 := ext_from l (sgnN l) hs
  have HC := Lib.hid (fun V => while_dig (l.drop (sgnN l)) V (by rw [List.length_drop]; omega))
  have hq := span_le digB (l.drop (sgnN l))
  rw [List.length_drop] at hq
  have hx2 := ext_to l (sgnN l + spanN digB (l.drop (sgnN l)))
  show Calls _ _ _ _ fun e w' => TkEnd ((valB (l.take (sgnN l + spanN digB (l.drop (sgnN l))))).map fun v => (⟨2, [], v, 0⟩, sgnN l + spanN digB (l.drop (sgnN l)))) e ∧ Fr Non w w'
  have HP := Lib.hid (fun V h => sprs_any (l.take (sgnN l + spanN digB (l.drop (sgnN l)))) V h (by rw [List.length_take]; omega))
  clear hn
  generalize Lib.trimPrefix l [45] = T at *
  generalize sgnN l = a at *
  generalize l.drop a = d at *
  generalize spanN digB d = q at *
  have hs2 : (a : Int) + (q : Int) = ((a + q : Nat) : Int) := by omega
  have hn : a + q ≤ l.length := by omega
  generalize a + q = n at *
  generalize l.take n = m at *
  have he : (l.length : Int) - (T.length : Int) = (a : Int) := by omega
  have HL := Lib.hid hW
  go_enter Tryz.func95, Tryz.ntmps95
  go_wp2_with fail
  refine (HT.out _).mono ?_
  rintro e w1 ⟨rfl, rfl⟩
  clear HT
  go_wp2_with fail
  refine (HC.out _).mono ?_
  rintro e w1 ⟨rfl, hf1⟩
  have HF1 := Lib.hid hf1
  clear hf1 HC
  go_wp2_with fail
  refine (HP.out _ (HL.out.non (((Fr.refl Non w).alloc _).then HF1.out))).mono ?_
  rintro e w2 ⟨hE, hf2⟩
  have HF2 := Lib.hid (HF1.out.trans hf2)
  clear hf2 HF1 HP
  rcases hE with ⟨v, hv, rfl⟩ | ⟨hno, x, ty, p, rfl⟩
  · obtain ⟨hv1, hv2⟩ := val_ok hv
    have HD := Lib.hid (fun V h => wdigits_any v V h hv2)
    have HV := Lib.hid hv1
    clear hv1 hv2 hv
    go_wp2_with fail
    have hL2 := (HL.out.non (((Fr.refl Non w).alloc _).then HF2.out)).drew
    go_region_held3 (fun _ => True) (exact trivial) (first | (go_at_call 112; refine (HD.out _ hL2).mono ?_; rintro e w3 ⟨rfl, hf3⟩))
    obtain ⟨hB, hf⟩ := tkW_after (HF2.out.drew.trans hf3)
    obtain ⟨c0, c1, c2, c3, z0, z1, z2, z3⟩ := hB.facts
    dsimp only [noTk] at c0 c1 c2 c3
    have HB := Lib.hid hB
    have HF := Lib.hid hf
    clear HF2 hB hf hf3 HD hL2
    cases hb : (Lib.itoa v == m) with
    | true =>
      replace HV := Lib.hid (HV.out.trans (if_pos (by simpa using hb)))
      go_wp2
      rw [HV.out]
      exact bodyPost_ret (ret_tkW (p := 2) (u := 3) rfl _ _ w.heap.size ⟨2, [], v, 0⟩ (.int .i64 (n : Int)) rfl rfl (setTk_W HB.out ⟨2, [], v, 0⟩)) rfl ⟨rfl, setTk_end HF.out ⟨2, [], v, 0⟩⟩
    | false =>
      replace HV := Lib.hid (HV.out.trans (if_neg (by simpa using hb)))
      go_wp2
      rw [HV.out]
      exact bodyPost_ret (ret_tkW (p := 2) (u := 3) rfl _ _ w.heap.size noTk (.int .i64 0) rfl rfl (setTk_W HB.out noTk)) rfl ⟨⟨noTk, rfl⟩, setTk_end HF.out noTk⟩
  · have HV := Lib.hid (val_bad hno)
    clear hno
    go_wp2_with fail
    go_quiet (fail)
    obtain ⟨hB, hf⟩ := tkW_after (HF2.out.drewN nq)
    obtain ⟨c0, c1, c2, c3, z0, z1, z2, z3⟩ := hB.facts
    dsimp only [noTk] at c0 c1 c2 c3
    have HB := Lib.hid hB
    have HF := Lib.hid hf
    clear HF2 hB hf
    generalize w2.drewN nq = W at *
    go_wp2
    rw [HV.out]
    exact bodyPost_ret (ret_tkW (p := 2) (u := 3) rfl _ _ w.heap.size noTk (.int .i64 0) rfl rfl (setTk_W HB.out noTk)) rfl ⟨⟨noTk, rfl⟩, setTk_end HF.out noTk⟩
end Go.Proofs.YtipgaafgnefmdaaGreatDoor


namespace Go.Proofs.YtipgaafgnefmdaaGreatDoor
set_option linter.unusedVariables false
set_option linter.unusedSimpArgs false
set_option maxRecDepth 100000
open Go.RowKit

theorem mk_next {l m : List UInt8} {i : Nat} (hi : marksL[i]? = some m) (h : mkT l = (marksL.drop i).find? fun m => m.isPrefixOf l) (hp : m.isPrefixOf l = false) : mkT l = (marksL.drop (i + 1)).find? fun m => m.isPrefixOf l := by
  obtain ⟨hlt, rfl⟩ := List.getElem?_eq_some_iff.1 hi
  rw [h, List.drop_eq_getElem_cons hlt, List.find?_cons_of_neg (by simp [hp])]
theorem mk_hit {l m : List UInt8} {i : Nat} (hi : marksL[i]? = some m) (h : mkT l = (marksL.drop i).find? fun m => m.isPrefixOf l) (hp : m.isPrefixOf l = true) : mkT l = some m := by
  obtain ⟨hlt, rfl⟩ := List.getElem?_eq_some_iff.1 hi
  rw [h, List.drop_eq_getElem_cons hlt, List.find?_cons_of_pos (by simp [hp])]
theorem mk_none {l : List UInt8} (h : mkT l = (marksL.drop 10).find? fun m => m.isPrefixOf l) : mkT l = none := h

/-- an element of the table -/
theorem idx_marks : (∀ W : World, (Instr.index 130 (.agg #[.string ⟨#[60, 62]⟩, .string ⟨#[60, 61]⟩, .string ⟨#[62, 61]⟩, .string ⟨#[60]⟩, .string ⟨#[62]⟩, .string ⟨#[61]⟩, .string ⟨#[44]⟩, .string ⟨#[40]⟩, .string ⟨#[41]⟩, .string ⟨#[42]⟩]) (.int .i64 0)).run Tryz.prog W = .ok (.string ⟨#[60, 62]⟩) W) ∧
    (∀ W : World, (Instr.index 130 (.agg #[.string ⟨#[60, 62]⟩, .string ⟨#[60, 61]⟩, .string ⟨#[62, 61]⟩, .string ⟨#[60]⟩, .string ⟨#[62]⟩, .string ⟨#[61]⟩, .string ⟨#[44]⟩, .string ⟨#[40]⟩, .string ⟨#[41]⟩, .string ⟨#[42]⟩]) (.int .i64 1)).run Tryz.prog W = .ok (.string ⟨#[60, 61]⟩) W) ∧
    (∀ W : World, (Instr.index 130 (.agg #[.string ⟨#[60, 62]⟩, .string ⟨#[60, 61]⟩, .string ⟨#[62, 61]⟩, .string ⟨#[60]⟩, .string ⟨#[62]⟩, .string ⟨#[61]⟩, .string ⟨#[44]⟩, .string ⟨#[40]⟩, .string ⟨#[41]⟩, .string ⟨#[42]⟩]) (.int .i64 2)).run Tryz.prog W = .ok (.string ⟨#[62, 61]⟩) W) ∧
    (∀ W : World, (Instr.index 130 (.agg #[.string ⟨#[60, 62]⟩, .string ⟨#[60, 61]⟩, .string ⟨#[62, 61]⟩, .string ⟨#[60]⟩, .string ⟨#[62]⟩, .string ⟨#[61]⟩, .string ⟨#[44]⟩, .string ⟨#[40]⟩, .string ⟨#[41]⟩, .string ⟨#[42]⟩]) (.int .i64 3)).run Tryz.prog W = .ok (.string ⟨#[60]⟩) W) ∧
    (∀ W : World, (Instr.index 130 (.agg #[.string ⟨#[60, 62]⟩, .string ⟨#[60, 61]⟩, .string ⟨#[62, 61]⟩, .string ⟨#[60]⟩, .string ⟨#[62]⟩, .string ⟨#[61]⟩, .string ⟨#[44]⟩, .string ⟨#[40]⟩, .string ⟨#[41]⟩, .string ⟨#[42]⟩]) (.int .i64 4)).run Tryz.prog W = .ok (.string ⟨#[62]⟩) W) ∧
    (∀ W : World, (Instr.index 130 (.agg #[.string ⟨#[60, 62]⟩, .string ⟨#[60, 61]⟩, .string ⟨#[62, 61]⟩, .string ⟨#[60]⟩, .string ⟨#[62]⟩, .string ⟨#[61]⟩, .string ⟨#[44]⟩, .string ⟨#[40]⟩, .string ⟨#[41]⟩, .string ⟨#[42]⟩]) (.int .i64 5)).run Tryz.prog W = .ok (.string ⟨#[61]⟩) W) ∧
    (∀ W : World, (Instr.index 130 (.agg #[.string ⟨#[60, 62]⟩, .string ⟨#[60, 61]⟩, .string ⟨#[62, 61]⟩, .string ⟨#[60]⟩, .string ⟨#[62]⟩, .string ⟨#[61]⟩, .string ⟨#[44]⟩, .string ⟨#[40]⟩, .string ⟨#[41]⟩, .string ⟨#[42]⟩]) (.int .i64 6)).run Tryz.prog W = .ok (.string ⟨#[44]⟩) W) ∧
    (∀ W : World, (Instr.index 130 (.agg #[.string ⟨#[60, 62]⟩, .string ⟨#[60, 61]⟩, .string ⟨#[62, 61]⟩, .string ⟨#[60]⟩, .string ⟨#[62]⟩, .string ⟨#[61]⟩, .string ⟨#[44]⟩, .string ⟨#[40]⟩, .string ⟨#[41]⟩, .string ⟨#[42]⟩]) (.int .i64 7)).run Tryz.prog W = .ok (.string ⟨#[40]⟩) W) ∧
    (∀ W : World, (Instr.index 130 (.agg #[.string ⟨#[60, 62]⟩, .string ⟨#[60, 61]⟩, .string ⟨#[62, 61]⟩, .string ⟨#[60]⟩, .string ⟨#[62]⟩, .string ⟨#[61]⟩, .string ⟨#[44]⟩, .string ⟨#[40]⟩, .string ⟨#[41]⟩, .string ⟨#[42]⟩]) (.int .i64 8)).run Tryz.prog W = .ok (.string ⟨#[41]⟩) W) ∧
    (∀ W : World, (Instr.index 130 (.agg #[.string ⟨#[60, 62]⟩, .string ⟨#[60, 61]⟩, .string ⟨#[62, 61]⟩, .string ⟨#[60]⟩, .string ⟨#[62]⟩, .string ⟨#[61]⟩, .string ⟨#[44]⟩, .string ⟨#[40]⟩, .string ⟨#[41]⟩, .string ⟨#[42]⟩]) (.int .i64 9)).run Tryz.prog W = .ok (.string ⟨#[42]⟩) W) :=
  ⟨fun _ => by kernel_rfl, fun _ => by kernel_rfl, fun _ => by kernel_rfl, fun _ => by kernel_rfl, fun _ => by kernel_rfl, fun _ => by kernel_rfl, fun _ => by kernel_rfl, fun _ => by kernel_rfl, fun _ => by kernel_rfl, fun _ => by kernel_rfl⟩

set_option maxHeartbeats 1000000 in
theorem wmark_any (l : List UInt8) (w : World) (hW : Lw w) (hl : l.length ≤ 1000000) : Calls Tryz.prog 97 #[.string ⟨l.toArray⟩] w fun e w' => TkEnd ((mkT l).map fun t => (⟨4, t, 0, 0⟩, t.length)) e ∧ Fr Non w w' := by
  have hM := (hW.alloc (.cells #[.int .i64 0, .string ⟨#[]⟩, .int .i64 0, .int .i64 0] 99)).marks
  have m0 := hM 0 (by decide)
  have m1 := hM 1 (by decide)
  have m2 := hM 2 (by decide)
  have m3 := hM 3 (by decide)
  have m4 := hM 4 (by decide)
  have m5 := hM 5 (by decide)
  have m6 := hM 6 (by decide)
  have m7 := hM 7 (by decide)
  have m8 := hM 8 (by decide)
  have m9 := hM 9 (by decide)
  simp only [marksL, List.getElem_cons_succ, List.getElem_cons_zero] at m0 m1 m2 m3 m4 m5 m6 m7 m8 m9
  clear hM
  go_enter Tryz.func97, Tryz.ntmps97
  go_wp2
  have HF := Lib.hid (tkW_after (w := w) (Fr.refl Non _))
  obtain ⟨x0, x1, x2, x3, x4, x5, x6, x7, x8, x9⟩ := idx_marks
  go_loopw [7] (fun v wr => ∃ i : Nat, i ≤ 10 ∧ v = .int .i64 (i : Int) ∧ wr = w.alloc (.cells #[.int .i64 0, .string ⟨#[]⟩, .int .i64 0, .int .i64 0] 99) ∧ Hid (mkT l = (marksL.drop i).find? fun m => m.isPrefixOf l)) (fun v _ => 10 - (intOf v).toNat)
  case atStart => exact ⟨0, by omega, rfl, rfl, Lib.hid rfl⟩
  case round =>
    obtain ⟨i, hi, rfl, rfl, hd⟩ := hrel
    obtain ⟨hB, hf⟩ := HF.out
    obtain ⟨c0, c1, c2, c3, z0, z1, z2, z3⟩ := hB.facts
    dsimp only [noTk] at c0 c1 c2 c3
    clear hB hf m0 m1 m2 m3 m4 m5 m6 m7 m8 m9
    generalize w.alloc (.cells #[.int .i64 0, .string ⟨#[]⟩, .int .i64 0, .int .i64 0] 99) = W at *
    by_cases h10 : i = 10
    · subst h10
      have HE := Lib.hid (mk_none hd.out)
      clear hd
      go_wp2
      rw [HE.out]
      exact bodyPost_ret (ret_tkW (p := 2) (u := 3) rfl _ _ w.heap.size noTk (.int .i64 0) rfl rfl (setTk_W HF.out.1 noTk)) rfl ⟨⟨noTk, rfl⟩, setTk_end HF.out.2 noTk⟩
    · obtain ⟨m, hm⟩ : ∃ m, marksL[i]? = some m := ⟨marksL[i]'(by show i < 10; omega), List.getElem?_eq_getElem _⟩
      have HP := Lib.hid (fun V => shas_any l m V)
      cases hp : m.isPrefixOf l with
      | true =>
        have HE := Lib.hid (mk_hit hm hd.out hp)
        rw [hp] at HP
        clear hd hp
        rcases (by omega : i = 0 ∨ i = 1 ∨ i = 2 ∨ i = 3 ∨ i = 4 ∨ i = 5 ∨ i = 6 ∨ i = 7 ∨ i = 8 ∨ i = 9) with rfl | rfl | rfl | rfl | rfl | rfl | rfl | rfl | rfl | rfl
        all_goals
          simp only [marksL, List.getElem?_cons_succ, List.getElem?_cons_zero, Option.some.injEq] at hm
          subst hm
          go_wp2_with fail
          refine (HP.out _).mono ?_
          rintro e w1 ⟨rfl, rfl⟩
          clear HP
          go_wp2
          rw [HE.out]
          exact bodyPost_ret (ret_tkW (p := 2) (u := 3) rfl _ _ w.heap.size ⟨4, _, 0, 0⟩ _ rfl rfl (setTk_W HF.out.1 ⟨4, _, 0, 0⟩)) rfl ⟨rfl, setTk_end HF.out.2 ⟨4, _, 0, 0⟩⟩
      | false =>
        have HE := Lib.hid (mk_next hm hd.out hp)
        rw [hp] at HP
        clear hd hp
        rcases (by omega : i = 0 ∨ i = 1 ∨ i = 2 ∨ i = 3 ∨ i = 4 ∨ i = 5 ∨ i = 6 ∨ i = 7 ∨ i = 8 ∨ i = 9) with rfl | rfl | rfl | rfl | rfl | rfl | rfl | rfl | rfl | rfl
        all_goals
          simp only [marksL, List.getElem?_cons_succ, List.getElem?_cons_zero, Option.some.injEq] at hm
          subst hm
          go_wp2_with fail
          refine (HP.out _).mono ?_
          rintro e w1 ⟨rfl, rfl⟩
          clear HP
          go_wp2
          go_roundw
          case rel => refine ⟨_, ?_, ?_, ?_, HE⟩ <;> first | trivial | rfl | omega
          case measure => simp [intOf]

/-! ### The first word -/
theorem TkEnd.is_ {x : Option (Tk × Nat)} {e : Ending} (h : TkEnd x e) : ∃ (t : Tk) (n : Nat), e = .returned (.tuple #[.agg #[.int .i64 t.kind, .string ⟨t.txt.toArray⟩, .int .i64 t.num, .int .i64 t.at_], .int .i64 (n : Int)]) ∧ Hid (TkEnd x (.returned (.tuple #[tkV t, .int .i64 (n : Int)]))) := by
  cases x with
  | none => obtain ⟨t, rfl⟩ := h; exact ⟨t, 0, rfl, Lib.hid ⟨t, rfl⟩⟩
  | some x => obtain ⟨t, n⟩ := x; exact ⟨t, n, h, Lib.hid rfl⟩

set_option maxHeartbeats 1000000 in
theorem wfirst_any (c : UInt8) (r : List UInt8) (l : List UInt8) (hcr : l = c :: r) (w : World) (hW : Lw w) (hl : l.length ≤ 1000000) : Calls Tryz.prog 69 #[.int .i32 ((dcU l).1 : Nat), .string ⟨l.toArray⟩] w fun e w' => TkEnd (oneB l) e ∧ Fr Non w w' := by
  have h1 : 1 ≤ l.length := by rw [hcr]; simp
  have HL := Lib.hid (fun V => wletter_any (dcU l).1 V)
  have HD := Lib.hid (fun V => wdigit_any (dcU l).1 V)
  have e1 : letR (dcU l).1 = letB c := by rw [hcr]; exact let_rune c r
  have e2 : digR (dcU l).1 = digB c := by rw [hcr]; exact dig_rune c r
  have e3 : ((dcU l).1 = 45) ↔ c = 45 := by rw [hcr]; exact is_rune 45 (by omega) c r
  have e4 : ((dcU l).1 = 39) ↔ c = 39 := by rw [hcr]; exact is_rune 39 (by omega) c r
  have HN := Lib.hid (fun V => wname_any l V hl)
  have HU := Lib.hid (fun V h => wnumber_any l V h hl)
  have HT := Lib.hid (fun V h => wtext_any l V h h1 hl)
  have HM := Lib.hid (fun V h => wmark_any l V h hl)
  have hO : oneB l = if letB c then some (⟨1, l.take (spanN innB l), 0, 0⟩, spanN innB l) else if digB c || decide (c = 45) then (valB (l.take (nszN l))).map fun v => (⟨2, [], v, 0⟩, nszN l)
      else if c = 39 then (qtB (l.drop 1)).map fun x => (⟨3, x.1, 0, 0⟩, x.2 + 1) else (mkT l).map fun t => (⟨4, t, 0, 0⟩, t.length) := by
    rw [hcr]
    by_cases hd : (digB c || decide (c = 45)) = true
    · rw [nsz_is hd]; rfl
    · simp only [oneB, if_neg hd]; rfl
  rw [e1] at HL
  rw [e2] at HD
  have HW := Lib.hid (hW.alloc (.cells #[.int .i64 0, .string ⟨#[]⟩, .int .i64 0, .int .i64 0] 99))
  have HO := Lib.hid hO
  clear e1 e2 hO hcr h1
  generalize (dcU l).1 = x at *
  have HF0 := Lib.hid (tkW_after (w := w) (Fr.refl Non _))
  cases hl1 : letB c with
  | true =>
    rw [hl1] at HL
    replace HO := Lib.hid (HO.out.trans (if_pos hl1))
    replace HN := Lib.hid (HN.out (w.alloc (.cells #[.int .i64 0, .string ⟨#[]⟩, .int .i64 0, .int .i64 0] 99)))
    clear HU HT HM HD
    go_enter Tryz.func69, Tryz.ntmps69
    go_wp2_with fail
    refine (HL.out _).mono ?_
    rintro e w1 ⟨rfl, rfl⟩
    go_wp2_with fail
    refine HN.out.mono ?_
    rintro e w2 ⟨hE, hf2⟩
    obtain ⟨t, n, rfl, HE⟩ := hE.is_
    obtain ⟨hB, hf⟩ := tkW_after hf2
    obtain ⟨c0, c1, c2, c3, z0, z1, z2, z3⟩ := hB.facts
    dsimp only [noTk] at c0 c1 c2 c3
    have HB := Lib.hid hB
    have HF := Lib.hid hf
    clear hE hf2 hB hf
    go_wp2
    rw [HO.out]
    exact bodyPost_ret (ret_tkW (p := 4) (u := 5) rfl _ _ w.heap.size t (.int .i64 (n : Int)) rfl rfl (setTk_W HB.out t)) rfl ⟨HE.out, setTk_end HF.out t⟩
  | false =>
    rw [hl1] at HL
    replace HO := Lib.hid (HO.out.trans (if_neg (by rw [hl1]; simp)))
    clear HN
    by_cases hd : (digB c || decide (c = 45)) = true
    · replace HO := Lib.hid (HO.out.trans (if_pos hd))
      replace HU := Lib.hid (HU.out (w.alloc (.cells #[.int .i64 0, .string ⟨#[]⟩, .int .i64 0, .int .i64 0] 99)) HW.out)
      clear HT HM
      cases hd1 : digB c with
      | true =>
        rw [hd1] at HD
        clear hd
        go_enter Tryz.func69, Tryz.ntmps69
        go_wp2_with fail
        refine (HL.out _).mono ?_
        rintro e w1 ⟨rfl, rfl⟩
        go_wp2_with fail
        refine (HD.out _).mono ?_
        rintro e w1 ⟨rfl, rfl⟩
        go_wp2_with fail
        refine HU.out.mono ?_
        rintro e w2 ⟨hE, hf2⟩
        obtain ⟨t, n, rfl, HE⟩ := hE.is_
        obtain ⟨hB, hf⟩ := tkW_after hf2
        obtain ⟨c0, c1, c2, c3, z0, z1, z2, z3⟩ := hB.facts
        dsimp only [noTk] at c0 c1 c2 c3
        have HB := Lib.hid hB
        have HF := Lib.hid hf
        clear hE hf2 hB hf
        go_wp2
        rw [HO.out]
        exact bodyPost_ret (ret_tkW (p := 4) (u := 5) rfl _ _ w.heap.size t (.int .i64 (n : Int)) rfl rfl (setTk_W HB.out t)) rfl ⟨HE.out, setTk_end HF.out t⟩
      | false =>
        rw [hd1] at HD
        have hx : x = 45 := e3.2 (by simpa [hd1] using hd)
        subst hx
        clear hd e3 e4
        go_enter Tryz.func69, Tryz.ntmps69
        go_wp2_with fail
        refine (HL.out _).mono ?_
        rintro e w1 ⟨rfl, rfl⟩
        go_wp2_with fail
        refine (HD.out _).mono ?_
        rintro e w1 ⟨rfl, rfl⟩
        go_wp2_with fail
        refine HU.out.mono ?_
        rintro e w2 ⟨hE, hf2⟩
        obtain ⟨t, n, rfl, HE⟩ := hE.is_
        obtain ⟨hB, hf⟩ := tkW_after hf2
        obtain ⟨c0, c1, c2, c3, z0, z1, z2, z3⟩ := hB.facts
        dsimp only [noTk] at c0 c1 c2 c3
        have HB := Lib.hid hB
        have HF := Lib.hid hf
        clear hE hf2 hB hf
        go_wp2
        rw [HO.out]
        exact bodyPost_ret (ret_tkW (p := 4) (u := 5) rfl _ _ w.heap.size t (.int .i64 (n : Int)) rfl rfl (setTk_W HB.out t)) rfl ⟨HE.out, setTk_end HF.out t⟩
    · replace HO := Lib.hid (HO.out.trans (if_neg hd))
      simp only [Bool.or_eq_true, not_or, Bool.not_eq_true, decide_eq_true_eq] at hd
      obtain ⟨hd1, hd2⟩ := hd
      rw [hd1] at HD
      have hx1 : ((x : Int) == 45) = false := by rw [beq_eq_false_iff_ne]; intro e; exact hd2 (e3.1 (by omega))
      clear HU hd1 hd2 e3
      by_cases hq : c = 39
      · replace HO := Lib.hid (HO.out.trans (if_pos hq))
        replace HT := Lib.hid (HT.out (w.alloc (.cells #[.int .i64 0, .string ⟨#[]⟩, .int .i64 0, .int .i64 0] 99)) HW.out)
        have hx : x = 39 := e4.2 hq
        subst hx
        clear HM e4 hq
        go_enter Tryz.func69, Tryz.ntmps69
        go_wp2_with fail
        refine (HL.out _).mono ?_
        rintro e w1 ⟨rfl, rfl⟩
        go_wp2_with fail
        refine (HD.out _).mono ?_
        rintro e w1 ⟨rfl, rfl⟩
        go_wp2_with fail
        refine HT.out.mono ?_
        rintro e w2 ⟨hE, hf2⟩
        obtain ⟨t, n, rfl, HE⟩ := hE.is_
        obtain ⟨hB, hf⟩ := tkW_after hf2
        obtain ⟨c0, c1, c2, c3, z0, z1, z2, z3⟩ := hB.facts
        dsimp only [noTk] at c0 c1 c2 c3
        have HB := Lib.hid hB
        have HF := Lib.hid hf
        clear hE hf2 hB hf
        go_wp2
        rw [HO.out]
        exact bodyPost_ret (ret_tkW (p := 4) (u := 5) rfl _ _ w.heap.size t (.int .i64 (n : Int)) rfl rfl (setTk_W HB.out t)) rfl ⟨HE.out, setTk_end HF.out t⟩
      · replace HO := Lib.hid (HO.out.trans (if_neg hq))
        replace HM := Lib.hid (HM.out (w.alloc (.cells #[.int .i64 0, .string ⟨#[]⟩, .int .i64 0, .int .i64 0] 99)) HW.out)
        have hx2 : ((x : Int) == 39) = false := by rw [beq_eq_false_iff_ne]; intro e; exact hq (e4.1 (by omega))
        clear HT e4 hq
        go_enter Tryz.func69, Tryz.ntmps69
        go_wp2_with fail
        refine (HL.out _).mono ?_
        rintro e w1 ⟨rfl, rfl⟩
        go_wp2_with fail
        refine (HD.out _).mono ?_
        rintro e w1 ⟨rfl, rfl⟩
        go_wp2_with fail
        refine HM.out.mono ?_
        rintro e w2 ⟨hE, hf2⟩
        obtain ⟨t, n, rfl, HE⟩ := hE.is_
        obtain ⟨hB, hf⟩ := tkW_after hf2
        obtain ⟨c0, c1, c2, c3, z0, z1, z2, z3⟩ := hB.facts
        dsimp only [noTk] at c0 c1 c2 c3
        have HB := Lib.hid hB
        have HF := Lib.hid hf
        clear hE hf2 hB hf
        go_wp2
        rw [HO.out]
        exact bodyPost_ret (ret_tkW (p := 4) (u := 5) rfl _ _ w.heap.size t (.int .i64 (n : Int)) rfl rfl (setTk_W HB.out t)) rfl ⟨HE.out, setTk_end HF.out t⟩
end Go.Proofs.YtipgaafgnefmdaaGreatDoor


namespace Go.Proofs.YtipgaafgnefmdaaGreatDoor
set_option linter.unusedVariables false
set_option linter.unusedSimpArgs false
set_option maxRecDepth 100000
open Go.RowKit

/-- so far: the range stands at p, the last word ended at b -/
structure WI (l : List UInt8) (p b : Nat) (D : List Tk) : Prop where
  rest : tokB 0 l = preT D (tokB (max p b) (l.drop (max p b)))
  low : p < b → ∃ d, l[b - 1]? = some d ∧ d.toNat < 128
  few : D.length ≤ max p b
  le : b ≤ l.length
theorem wi_zero (l : List UInt8) : WI l 0 0 [] := ⟨by simp [preT_nil], fun h => absurd h (by omega), by simp, by omega⟩
theorem wi_wide {l : List UInt8} {p b : Nat} (hp : p < l.length) (h : p < b) (hl : ∃ d, l[b - 1]? = some d ∧ d.toNat < 128) : p + (dcU (l.drop p)).2 ≤ b := by
  obtain ⟨c, r, hd, hc, hr⟩ := drop_is hp
  rcases lo_or_hi c with h1 | h1
  · rw [hd, dcU_low r h1]; exact h
  · obtain ⟨d, hd1, hd2⟩ := hl
    by_cases hw : p + (dcU (l.drop p)).2 ≤ b
    · exact hw
    · exfalso
      have hh := (dcU_hi (c := c) (r := r) h1).2 (b - 1 - p) (by rw [← hd]; omega)
      rw [← hd, List.getD_eq_getElem?_getD, List.getElem?_drop, show p + (b - 1 - p) = b - 1 by omega, hd1] at hh
      simp at hh; omega
theorem WI.skip {l : List UInt8} {p b : Nat} {D : List Tk} (h : WI l p b D) (hp : p < l.length) (hb : p < b) : WI l (p + (dcU (l.drop p)).2) b D := by
  have hw := wi_wide hp hb (h.low hb)
  have e : max (p + (dcU (l.drop p)).2) b = max p b := by omega
  exact ⟨by rw [e]; exact h.rest, fun _ => h.low hb, by rw [e]; exact h.few, h.le⟩
theorem WI.blank {l : List UInt8} {p b : Nat} {D : List Tk} (h : WI l p b D) (hp : p < l.length) (hb : ¬ p < b) (hk : blkR (dcU (l.drop p)).1 = true) : WI l (p + (dcU (l.drop p)).2) b D := by
  obtain ⟨c, r, hd, hc, hr⟩ := drop_is hp
  rw [hd, blk_rune] at hk
  have hw : (dcU (l.drop p)).2 = 1 := by rw [hd, dcU_low r (blkB_lo hk)]
  have hrest := h.rest
  have hfew := h.few
  rw [show max p b = p by omega] at hrest hfew
  rw [hd, tok_blank p hk, hr] at hrest
  rw [hw]
  have e : max (p + 1) b = p + 1 := by omega
  exact ⟨by rw [e]; exact hrest, fun h => absurd h (by omega), by rw [e]; omega, h.le⟩
theorem WI.bad {l : List UInt8} {p b : Nat} {D : List Tk} (h : WI l p b D) (hp : p < l.length) (hb : ¬ p < b) (hk : blkR (dcU (l.drop p)).1 = false) (ho : oneB (l.drop p) = none) : tokB 0 l = .error p := by
  obtain ⟨c, r, hd, hc, hr⟩ := drop_is hp
  rw [hd, blk_rune] at hk
  rw [hd] at ho
  have hrest := h.rest
  rw [show max p b = p by omega, hd, tok_bad p hk ho] at hrest
  exact hrest
theorem WI.word {l : List UInt8} {p b : Nat} {D : List Tk} {t : Tk} {n : Nat} (h : WI l p b D) (hp : p < l.length) (hb : ¬ p < b) (ho : oneB (l.drop p) = some (t, n)) : WI l (p + (dcU (l.drop p)).2) (p + n) (D ++ [putAt t p]) ∧ 1 ≤ n := by
  obtain ⟨c, r, hd, hc, hr⟩ := drop_is hp
  have hrest := h.rest
  have hfew := h.few
  rw [show max p b = p by omega] at hrest hfew
  rw [hd] at ho
  obtain ⟨h1, h2, h3, ⟨d, h4, h5⟩, _⟩ := one_is ho
  have hw : (dcU (l.drop p)).2 = 1 := by rw [hd, dcU_low r h3]
  rw [hd, tok_one p ho, preT_app, ← hd, List.drop_drop] at hrest
  rw [← hd, List.length_drop] at h2
  rw [hw]
  have e : max (p + 1) (p + n) = p + n := by omega
  refine ⟨⟨by rw [e]; exact hrest, fun _ => ⟨d, ?_, h5⟩, by rw [e]; simp; omega, by omega⟩, h1⟩
  rw [← hd, List.getElem?_drop] at h4
  rw [← h4]; congr 1; omega
theorem WI.end_ {l : List UInt8} {p b : Nat} {D : List Tk} (h : WI l p b D) (hp : ¬ p < l.length) (hp2 : p ≤ l.length) : tokB 0 l = .ok (D ++ [⟨0, [], 0, l.length⟩]) := by
  have hrest := h.rest
  have := h.le
  rw [show max p b = l.length by omega, List.drop_length, tok_nil] at hrest
  exact hrest

set_option maxHeartbeats 4000000 in
theorem wall_any (l : List UInt8) (w : World) (hW : Lw w) : Calls Tryz.prog 40 #[.string ⟨l.toArray⟩] w fun e w' => ∃ v, e = .returned (.tuple #[v, .int .i64 ((wsB l).2.1 : Nat), .int .i64 ((wsB l).2.2 : Nat)]) ∧ Tks w' v (wsB l).1 ∧ Fr Non w w' := by
  by_cases hlong : 400 < l.length
  · have HE := Lib.hid (all_long hlong)
    have hb : decide ((400 : Int) < (l.length : Int)) = true := by simp; omega
    clear hlong
    go_enter Tryz.func40, Tryz.ntmps40
    go_wp2
    go_ret3
    rw [HE.out]
    exact ⟨_, rfl, Ns.nil_ w, Fr.refl _ _⟩
  · have hb : decide ((400 : Int) < (l.length : Int)) = false := by simp; omega
    have HLW := Lib.hid hW
    have HS := Lib.hid hlong
    have hl4 : l.length ≤ 400 := by omega
    clear hlong
    go_enter Tryz.func40, Tryz.ntmps40
    go_wp2
    clear hb
    go_loopw [5, 6] (fun v bv wr => ∃ p b D, p ≤ l.length ∧ bv = .int .i64 (b : Nat) ∧ b ≤ 400 ∧ D.length ≤ 400 ∧ ItU wr w.heap.size l p ∧ TkoW wr (w.heap.size + 1) v D ∧ Fr Non w wr ∧ Hid (WI l p b D)) (fun _ _ wr => l.length - wr.iterPos w.heap.size)
    case atStart => exact ⟨0, 0, [], by omega, rfl, by omega, by simp, ItU.new w l, no_nil _ _, (Fr.refl _ _).alloc _, Lib.hid (wi_zero l)⟩
    case round =>
      obtain ⟨p, b, D, hp, rfl, hb4, hD4, hit, hown, hfr, hd⟩ := hrel
      have hp0 := hit.pos
      by_cases hlt : p < l.length
      · obtain ⟨W, hnx, hitW, hfW⟩ := nextU wr w.heap.size p l hit hlt
        have hfrW := hfr.fresh hfW (fun q e => by have : q = w.heap.size := e; omega)
        have hownW := hown.fr hfW (fun q hq e => by have := (hown.lt q hq).1; have : q = w.heap.size := e; omega)
        have hw := dcU_w (l := l.drop p) (by intro e; have := congrArg List.length e; simp at this; omega)
        rw [List.length_drop] at hw
        clear hit hown hfr hfW
        by_cases hpb : p < b
        · have hpi : decide (p < b) = true := by simp; omega
          have HM := Lib.hid (hd.out.skip hlt hpb)
          clear hd hpb
          generalize (dcU (l.drop p)).1 = x at *
          generalize hq : p + (dcU (l.drop p)).2 = q at *
          have hkq : p < q := by omega
          have hql : q ≤ l.length := by omega
          clear hq hw
          have HO := Lib.hid hownW
          have HF := Lib.hid hfrW
          clear hownW hfrW
          go_wp2
          go_roundw
          case rel => exact ⟨q, b, D, hql, rfl, hb4, hD4, hitW, HO.out, HF.out, HM⟩
          case measure => rw [hp0, hitW.pos]; omega
        · have hpi : decide (p < b) = false := by simp; omega
          have HB := Lib.hid (fun V => wblank_any (dcU (l.drop p)).1 V)
          cases hk : blkR (dcU (l.drop p)).1 with
          | true =>
            have HM := Lib.hid (hd.out.blank hlt hpb hk)
            rw [hk] at HB
            clear hd hpb hk
            generalize (dcU (l.drop p)).1 = x at *
            generalize hq : p + (dcU (l.drop p)).2 = q at *
            have hkq : p < q := by omega
            have hql : q ≤ l.length := by omega
            clear hq hw
            have HO := Lib.hid hownW
            have HF := Lib.hid hfrW
            clear hownW hfrW
            go_wp2_with fail
            refine (HB.out _).mono ?_
            rintro e w1 ⟨rfl, rfl⟩
            clear HB
            go_wp2
            go_roundw
            case rel => exact ⟨q, b, D, hql, rfl, hb4, hD4, hitW, HO.out, HF.out, HM⟩
            case measure => rw [hp0, hitW.pos]; omega
          | false =>
            obtain ⟨c, r, hdr, _, _⟩ := drop_is hlt
            have HFst := Lib.hid (wfirst_any c r (l.drop p) hdr W (HLW.out.non hfrW) (by rw [List.length_drop]; omega))
            have hx := ext_from l p hp
            have HWI := Lib.hid (hd.out.word (t := noTk) (n := 0) hlt hpb)
            have HWB := Lib.hid (hd.out.bad hlt hpb hk)
            have HWW := Lib.hid (fun t n => hd.out.word (t := t) (n := n) hlt hpb)
            rw [hk] at HB
            clear hd hpb hk hdr HWI
            generalize (dcU (l.drop p)).1 = x at *
            generalize hq : p + (dcU (l.drop p)).2 = q at *
            have hkq : p < q := by omega
            have hql : q ≤ l.length := by omega
            clear hq hw
            generalize l.drop p = m at *
            have HO := Lib.hid hownW
            have HF := Lib.hid hfrW
            have hHB := hitW.lt
            have HI := Lib.hid hitW
            clear hownW hfrW hitW
            go_wp2_with fail
            refine (HB.out _).mono ?_
            rintro e w1 ⟨rfl, rfl⟩
            clear HB
            go_wp2_with fail
            refine HFst.out.mono ?_
            rintro e w2 ⟨hE, hf2⟩
            clear HFst
            have HO2 := Lib.hid (HO.out.non hf2)
            have HF2 := Lib.hid (HF.out.then hf2)
            have HI2 := Lib.hid (HI.out.fr hf2 (fun e => e))
            clear hf2 HO HF HI
            cases ho : oneB m with
            | none =>
              rw [ho] at hE
              obtain ⟨t, rfl⟩ := hE
              have HE := Lib.hid (all_bad HS.out (HWB.out ho))
              clear ho HWB HWW
              dsimp only [tkV, tkA]
              go_wp2
              go_ret3
              rw [HE.out]
              exact ⟨_, rfl, Ns.nil_ _, HF2.out.alloc _⟩
            | some y =>
              obtain ⟨t, n⟩ := y
              rw [ho] at hE
              obtain rfl : e = .returned (.tuple #[tkV t, .int .i64 (n : Nat)]) := hE
              obtain ⟨hM, hn1⟩ := HWW.out t n ho
              have hpn := hM.le
              have hDn := hM.few
              rw [List.length_append] at hDn
              have hn0 : ((n : Int) == 0) = false := by rw [beq_eq_false_iff_ne]; omega
              have HM := Lib.hid hM
              clear ho hM HWB HWW
              have hO4 := HO2.out.alloc (.cells #[.int .i64 t.kind, .string ⟨t.txt.toArray⟩, .int .i64 t.num, .int .i64 (p : Int)] 99)
              have hF4 := HF2.out.alloc (.cells #[.int .i64 t.kind, .string ⟨t.txt.toArray⟩, .int .i64 t.num, .int .i64 (p : Int)] 99)
              have hI4 := HI2.out.fr ((Fr.refl Non w2).alloc (.cells #[.int .i64 t.kind, .string ⟨t.txt.toArray⟩, .int .i64 t.num, .int .i64 (p : Int)] 99)) (fun e => e)
              have hsz := hI4.lt
              have HO4 := Lib.hid hO4
              have HF4 := Lib.hid hF4
              have HI4 := Lib.hid hI4
              clear hO4 hF4 hI4 HO2 HF2 HI2
              dsimp only [tkV, tkA]
              go_wp2_with (at_builtin; refine wpList_pushN fd_tk eln_tkW rfl (.tmp 40) (.tmp 42) rfl (w.heap.size + 1) _ D rfl HO4.out (putAt t p) #[.int .i64 t.kind, .string ⟨t.txt.toArray⟩, .int .i64 t.num, .int .i64 p] rfl _ rfl (by simp) (by omega) (by omega) ?_; intro v5 w5 hO5 f5)
              have hF5 := HF4.out.fresh f5 (fun q hq => by have := (HO4.out.lt q hq).1; omega)
              have hI5 := HI4.out.fr f5 (fun e => by have := (HO4.out.lt _ e).1; omega)
              go_roundw
              case rel => exact ⟨q, p + n, _, hql, by push_cast; rfl, by omega, by rw [List.length_append]; omega, hI5, hO5, hF5, HM⟩
              case measure => rw [hp0, hI5.pos]; omega
      · have hnx := fun ty => nextU_end wr w.heap.size p l hit hlt ty
        have HE := Lib.hid (all_ok HS.out (hd.out.end_ hlt hp))
        have HO := Lib.hid hown
        have HF := Lib.hid hfr
        have hsz := hit.lt
        clear hd hown hfr hit
        go_wp2_with (at_builtin; refine wpList_pushN fd_tk eln_tkW rfl (.tmp 47) (.tmp 51) rfl (w.heap.size + 1) _ D rfl HO.out ⟨0, [], 0, l.length⟩ #[.int .i64 0, .string ⟨#[]⟩, .int .i64 0, .int .i64 l.length] rfl _ rfl rfl (by omega) (by omega) ?_; intro v5 w5 hO5 f5)
        have hF5 := HF.out.fresh f5 (fun q hq => by have := (HO.out.lt q hq).1; omega)
        go_ret3
        rw [HE.out]
        exact ⟨_, rfl, hO5.ns fd_tk, hF5⟩
end Go.Proofs.YtipgaafgnefmdaaGreatDoor


namespace Go.Proofs.YtipgaafgnefmdaaGreatDoor
set_option linter.unusedVariables false
set_option linter.unusedSimpArgs false
set_option maxRecDepth 100000
open Go.RowKit

theorem ask_no {h : Ph} (hn : nameB h.col = false) : askOk h = false := by unfold askOk; rw [hn]; rfl
theorem ask_cmp {h : Ph} (hn : nameB h.col = true) (h2 : h.op = 2) : askOk h = (decide (1 ≤ h.cmp ∧ h.cmp ≤ 6) && mayC h.kind false h.val && peq h ⟨h.op, h.col, h.cmp, h.val, h.kind, []⟩) := by
  unfold askOk; rw [hn, if_pos h2]; rfl
theorem ask_like {h : Ph} (hn : nameB h.col = true) (h2 : h.op = 4) : askOk h = (decide (h.pat.length ≤ 40) && peq h ⟨h.op, h.col, 0, zCl, 0, h.pat⟩) := by
  unfold askOk; rw [hn, if_neg (by omega), if_pos h2]; rfl
theorem ask_nul {h : Ph} (hn : nameB h.col = true) (h2 : ¬ h.op = 2) (h4 : ¬ h.op = 4) : askOk h = peq h ⟨h.op, h.col, 0, zCl, 0, []⟩ := by
  unfold askOk; rw [hn, if_neg h2, if_neg h4]; rfl

theorem iscmp_any (n : Int) (w : World) : Calls Tryz.prog 104 #[.int .i64 n] w fun e w' => e = .returned (.bool (decide (1 ≤ n ∧ n ≤ 6))) ∧ Fr Non w w' := by
  by_cases h : 1 ≤ n
  · go_enter Tryz.func104, Tryz.ntmps104
    go_wp2
    go_ret
    exact ⟨ret_boolE (by simp [h]), Fr.refl _ _⟩
  · go_enter Tryz.func104, Tryz.ntmps104
    go_wp2
    go_ret
    exact ⟨ret_boolE (by simp; omega), Fr.refl _ _⟩

set_option maxHeartbeats 2000000 in
theorem mayask_any (h : Ph) (s : Kv) (w : World) (hl : h.col.length ≤ 1000000000) : Calls Tryz.prog 88 #[pdV h s] w fun e w' => e = .returned (.bool (askOk h)) ∧ Fr Non w w' := by
  have N1 := fun W => sname_any h.col W hl
  have B0 := Lib.hid (pd_new w _ h s rfl)
  have F0 : Hid (Fr Non w _) := Lib.hid ((Fr.refl Non w).alloc (.cells (pdC h s) 28))
  have H1 := Lib.hid (fun hn => ask_no (h := h) hn)
  have H2 := Lib.hid (fun hn h2 => ask_cmp (h := h) hn h2)
  have H3 := Lib.hid (fun hn h2 => ask_like (h := h) hn h2)
  have H4 := Lib.hid (fun hn h2 h4 => ask_nul (h := h) hn h2 h4)
  have A2 := Lib.hid (fun W => alike_any h ⟨h.op, h.col, h.cmp, h.val, h.kind, []⟩ s noKv W)
  have A3 := Lib.hid (fun W => alike_any h ⟨h.op, h.col, 0, zCl, 0, h.pat⟩ s noKv W)
  have A4 := Lib.hid (fun W => alike_any h ⟨h.op, h.col, 0, zCl, 0, []⟩ s noKv W)
  have C1 := Lib.hid (fun W => iscmp_any h.cmp W)
  have C2 := Lib.hid (fun W => may_any h.kind false h.val W)
  obtain ⟨op, col, cmp, ⟨vn, vi, vt⟩, kind, pat⟩ := h
  obtain ⟨sA, sn, sc⟩ := s
  have hs := slen pat
  dsimp only at *
  unfold pdV pdC kidV at *
  unfold noKv at A2 A3 A4
  unfold zCl at A3 A4
  unfold clV clC at C2
  dsimp only at *
  cases hn : nameB col
  · have HE := Lib.hid (H1.out hn)
    simp only [hn] at N1
    replace N1 := Lib.hid N1
    clear H1 H2 H3 H4 A2 A3 A4 C1 C2 hn
    go_enter Tryz.func88, Tryz.ntmps88
    go_wp2_with fail
    refine (N1.out _).mono ?_
    rintro e w1 ⟨rfl, f1⟩
    go_wp2
    go_ret
    exact ⟨ret_boolE HE.out.symm, F0.out.trans f1⟩
  · simp only [hn] at N1
    replace N1 := Lib.hid N1
    by_cases h2 : op = 2
    · have HE := Lib.hid (H2.out hn h2)
      clear H1 H2 H3 H4 A3 A4 hn
      subst h2
      go_enter Tryz.func88, Tryz.ntmps88
      go_wp2_with fail
      refine (N1.out _).mono ?_
      rintro e w1 ⟨rfl, f1⟩
      obtain ⟨g0, g1, g2, g3, g4, g5, g6, g7, g8⟩ := pdB_cells (B0.out.fr f1 (fun e => e))
      have B1 := Lib.hid (B0.out.fr f1 (fun e => e))
      dsimp only at g0 g1 g2 g3 g4 g5 g6 g7 g8
      generalize hc : decide (1 ≤ cmp ∧ cmp ≤ 6) = b1 at *
      clear hc
      have F1 := Lib.hid (F0.out.trans f1)
      clear f1 F0 B0
      go_wp2_with fail
      refine (C1.out _).mono ?_
      rintro e w2 ⟨rfl, f2⟩
      clear g0 g1 g2 g3 g4 g5 g6 g7 g8
      obtain ⟨g0, g1, g2, g3, g4, g5, g6, g7, g8⟩ := pdB_cells (B1.out.fr f2 (fun e => e))
      have B2 := Lib.hid (B1.out.fr f2 (fun e => e))
      have F2 := Lib.hid (F1.out.trans f2)
      dsimp only at g0 g1 g2 g3 g4 g5 g6 g7 g8
      clear f2 F1 B1
      cases b1
      · go_wp2
        go_ret
        exact ⟨ret_boolE (by rw [HE.out]; rfl), F2.out⟩
      · generalize hc : mayC kind false ⟨vn, vi, vt⟩ = b2 at *
        clear hc
        go_wp2_with fail
        refine (C2.out _).mono ?_
        rintro e w3 ⟨rfl, f3⟩
        clear g0 g1 g2 g3 g4 g5 g6 g7 g8
        obtain ⟨g0, g1, g2, g3, g4, g5, g6, g7, g8⟩ := pdB_cells (B2.out.fr f3 (fun e => e))
        have F3 := Lib.hid (F2.out.trans f3)
        dsimp only at g0 g1 g2 g3 g4 g5 g6 g7 g8
        clear f3 F2 B2
        cases b2
        · go_wp2
          go_ret
          exact ⟨ret_boolE (by rw [HE.out]; rfl), F3.out⟩
        · go_wp2_with fail
          refine (A2.out _).mono ?_
          rintro e w4 ⟨rfl, f4⟩
          go_wp2
          go_ret
          exact ⟨ret_boolE (by rw [HE.out]; rfl), F3.out.trans f4⟩
    · by_cases h4 : op = 4
      · have HE := Lib.hid (H3.out hn h4)
        clear H1 H2 H3 H4 A2 A4 hn C1 C2 h2
        subst h4
        go_enter Tryz.func88, Tryz.ntmps88
        go_wp2_with fail
        refine (N1.out _).mono ?_
        rintro e w1 ⟨rfl, f1⟩
        obtain ⟨g0, g1, g2, g3, g4, g5, g6, g7, g8⟩ := pdB_cells (B0.out.fr f1 (fun e => e))
        dsimp only at g0 g1 g2 g3 g4 g5 g6 g7 g8
        have F1 := Lib.hid (F0.out.trans f1)
        clear f1 F0 B0
        by_cases h40 : pat.length ≤ 40
        · go_wp2_with fail
          refine (A3.out _).mono ?_
          rintro e w4 ⟨rfl, f4⟩
          go_wp2
          go_ret
          exact ⟨ret_boolE (by rw [HE.out, decide_eq_true h40]; rfl), F1.out.trans f4⟩
        · go_wp2
          go_ret
          exact ⟨ret_boolE (by rw [HE.out, decide_eq_false h40]; simp), F1.out⟩
      · have HE := Lib.hid (H4.out hn h2 h4)
        clear H1 H2 H3 H4 A2 A3 hn C1 C2
        go_enter Tryz.func88, Tryz.ntmps88
        go_wp2_with fail
        refine (N1.out _).mono ?_
        rintro e w1 ⟨rfl, f1⟩
        obtain ⟨g0, g1, g2, g3, g4, g5, g6, g7, g8⟩ := pdB_cells (B0.out.fr f1 (fun e => e))
        dsimp only at g0 g1 g2 g3 g4 g5 g6 g7 g8
        have F1 := Lib.hid (F0.out.trans f1)
        clear f1 F0 B0
        go_wp2_with fail
        refine (A4.out _).mono ?_
        rintro e w4 ⟨rfl, f4⟩
        go_wp2
        go_ret
        exact ⟨ret_boolE (by rw [HE.out]; rfl), F1.out.trans f4⟩

/-! ### One of those within -/
theorem haskid1_any (h : Ph) (s : Kv) (op : Int) (g : Nat) (w : World) (hg : Blk w g 3 #[.int .i64 op]) :
    Calls Tryz.prog 107 #[pdV h s, .pointer (some ⟨g, 0, none⟩)] w fun e w' => e = .returned (.bool (h.op == op)) ∧ Fr Non w w' := by
  have F0 : Hid (Fr Non w _) := Lib.hid ((Fr.refl Non w).alloc (.cells (pdC h s) 28))
  have g0 := (hg.fr (F0.out) (fun e => e)).cell 0
  simp at g0
  obtain ⟨hop, col, cmp, ⟨vn, vi, vt⟩, kind, pat⟩ := h
  obtain ⟨sA, sn, sc⟩ := s
  unfold pdV pdC kidV at *
  dsimp only at *
  go_enter Tryz.func107, Tryz.ntmps107
  go_wp2
  go_ret
  exact ⟨rfl, F0.out⟩
end Go.Proofs.YtipgaafgnefmdaaGreatDoor


namespace Go.Proofs.YtipgaafgnefmdaaGreatDoor
set_option linter.unusedVariables false
set_option linter.unusedSimpArgs false
set_option maxRecDepth 100000
open Go.RowKit

theorem kidOp_more {op : Int} {ks : List Pd} {k : Nat} (h : k < ks.length) (h1 : (ks.take k).any (fun x => x.hd.op == op) = false) (h2 : (ks[k].hd.op == op) = false) : (ks.take (k + 1)).any (fun x => x.hd.op == op) = false := by
  rw [List.take_succ_eq_append_getElem h, List.any_append, h1]; simp [h2]
set_option maxHeartbeats 2000000 in
theorem pidx_any (s : Kv) (ks : List Pd) (op : Int) (g : Nat) (w : World) (hk : Kd w s ks) (hg : Blk w g 3 #[.int .i64 op]) (hl : ks.length ≤ 1000000000) :
    Calls Tryz.prog 120 #[kidV s, .func (.func 107) #[] #[.pointer (some ⟨g, 0, none⟩)]] w fun e w' => ∃ z : Int, e = .returned (.int .i64 z) ∧ decide (0 ≤ z) = kidOp op ks ∧ Fr Non w w' := by
  have hn := hk.len
  have HK := Lib.hid hk
  have HG := Lib.hid hg
  clear hk hg
  obtain ⟨A, n, c⟩ := s
  dsimp only at hn
  subst hn
  unfold kidV
  dsimp only
  go_enter Tryz.func120, Tryz.ntmps120
  go_wp2
  go_loopw [8] (fun i wr => ∃ (k : Nat), k ≤ ks.length ∧ i = .int .i64 k ∧ Hid ((ks.take k).any (fun x => x.hd.op == op) = false) ∧ Fr Non w wr) (fun i _ => ks.length - (intOf i).toNat)
  case atStart => exact ⟨0, Nat.zero_le _, rfl, Lib.hid rfl, Fr.refl _ _⟩
  case round =>
    obtain ⟨k, hk, rfl, hne, hfr⟩ := hrel
    by_cases hlt : k < ks.length
    · obtain ⟨a, t, hA, hc, _, _⟩ := (HK.out.non hfr).el k hlt
      dsimp only at hA
      subst hA
      obtain ⟨c0, c1, c2, c3, c4, c5, c6, c7, c8⟩ := hc
      have HY := Lib.hid (fun h => kidOp_more hlt hne.out h)
      have HX : Hid ((ks[k].hd.op == op) = true → kidOp op ks = true) := Lib.hid (fun h => List.any_eq_true.2 ⟨_, List.getElem_mem hlt, h⟩)
      have M := fun W h => haskid1_any ks[k].hd t op g W h
      have HB := Lib.hid (HG.out.fr hfr (fun e => e))
      clear hne
      generalize ks[k].hd = x at *
      obtain ⟨xo, xc, xm, ⟨xn, xi, xt⟩, xk, xp⟩ := x
      obtain ⟨tA, tn, tc⟩ := t
      unfold pdV pdC kidV at M
      dsimp only at c0 c1 c2 c3 c4 c5 c6 c7 c8 HY HX M
      have HF := Lib.hid hfr
      clear hfr
      cases hx : (xo == op)
      · have HE := Lib.hid (HY.out hx)
        simp only [hx] at M
        replace M := Lib.hid M
        clear HX HY hx
        go_wp2_with fail
        refine (M.out _ HB.out).mono ?_
        rintro e w2 ⟨rfl, f2⟩
        go_wp2
        go_roundw
        case rel => exact ⟨k + 1, by omega, by go_num, HE, HF.out.trans f2⟩
        case measure => simp [intOf]; omega
      · have HE := Lib.hid (HX.out hx)
        simp only [hx] at M
        replace M := Lib.hid M
        clear HX HY hx
        go_wp2_with fail
        refine (M.out _ HB.out).mono ?_
        rintro e w2 ⟨rfl, f2⟩
        go_wp2
        go_ret
        exact ⟨_, rfl, by rw [HE.out]; exact decide_eq_true (by omega), HF.out.trans f2⟩
    · have HE : Hid (kidOp op ks = false) := Lib.hid (by have := hne.out; rwa [List.take_of_length_le (by omega)] at this)
      clear hne
      go_wp2
      go_ret
      exact ⟨_, rfl, by rw [HE.out]; rfl, hfr⟩
theorem pcont_any (s : Kv) (ks : List Pd) (op : Int) (g : Nat) (w : World) (hk : Kd w s ks) (hg : Blk w g 3 #[.int .i64 op]) (hl : ks.length ≤ 1000000000) :
    Calls Tryz.prog 106 #[kidV s, .func (.func 107) #[] #[.pointer (some ⟨g, 0, none⟩)]] w fun e w' => e = .returned (.bool (kidOp op ks)) ∧ Fr Non w w' := by
  have h0 := Lib.hid (pidx_any s ks op g w hk hg hl)
  clear hk hg
  obtain ⟨A, n, c⟩ := s
  unfold kidV at *
  dsimp only at *
  go_enter Tryz.func106, Tryz.ntmps106
  go_wp2_with fail
  refine h0.out.mono ?_
  rintro e w1 ⟨z, rfl, hz, f1⟩
  go_wp2
  go_ret
  exact ⟨rfl, f1⟩
theorem haskid_any (h : Ph) (s : Kv) (ks : List Pd) (op : Int) (w : World) (hk : Kd w s ks) (hl : ks.length ≤ 1000000000) :
    Calls Tryz.prog 89 #[pdV h s, .int .i64 op] w fun e w' => e = .returned (.bool (kidOp op ks)) ∧ Fr Non w w' := by
  have F0 : Hid (Fr Non w ((w.alloc (.cells (pdC h s) 28)).alloc (.cells #[.int .i64 op] 3))) := Lib.hid (((Fr.refl Non w).alloc _).alloc _)
  have e1 : (w.alloc (.cells (pdC h s) 28)).heap.size = w.heap.size + 1 := by simp
  have b2 := Blk.new (w.alloc (.cells (pdC h s) 28)) 3 #[.int .i64 op]
  rw [e1] at b2
  have C1 := Lib.hid (pcont_any s ks op _ _ (hk.non F0.out) b2 hl)
  have hmf : ∀ (fn : Fn) (first cap : Array Value) (w : World), (Instr.makeFunc fn first cap).run Tryz.prog w = .ok (.func fn first cap) w := fun _ _ _ _ => rfl
  clear hk b2 e1
  obtain ⟨ho, hc, hm, ⟨hn, hi, ht⟩, hk', hp⟩ := h
  obtain ⟨A, n, c⟩ := s
  unfold pdV pdC kidV at *
  dsimp only at *
  go_enter Tryz.func89, Tryz.ntmps89
  go_wp2_with fail
  refine C1.out.mono ?_
  rintro e w1 ⟨rfl, f1⟩
  go_wp2
  go_ret
  exact ⟨rfl, F0.out.trans f1⟩

/-! ### One alone -/
theorem hd_one {h : Ph} {ks : List Pd} (e : h.op = 1) : hdOk h ks = (decide (ks.length = 0) && peq h ⟨h.op, [], 0, zCl, 0, []⟩) := by unfold hdOk; rw [if_pos e]; rfl
theorem hd_ask {h : Ph} {ks : List Pd} (e : h.op = 2 ∨ h.op = 3 ∨ h.op = 4) : hdOk h ks = (decide (ks.length = 0) && askOk h) := by unfold hdOk; rw [if_neg (by omega), if_pos e]
theorem hd_not {h : Ph} {ks : List Pd} (e : h.op = 5) : hdOk h ks = (decide (ks.length = 1) && peq h ⟨h.op, [], 0, zCl, 0, []⟩) := by unfold hdOk; rw [if_neg (by omega), if_neg (by omega), if_pos e]; rfl
theorem hd_two {h : Ph} {ks : List Pd} (e : h.op = 6 ∨ h.op = 7) : hdOk h ks = (decide (1 < ks.length) && peq h ⟨h.op, [], 0, zCl, 0, []⟩ && !kidOp h.op ks) := by unfold hdOk; rw [if_neg (by omega), if_neg (by omega), if_neg (by omega), if_pos e]; rfl
theorem hd_none {h : Ph} {ks : List Pd} (h1 : ¬ h.op = 1) (h2 : ¬ (h.op = 2 ∨ h.op = 3 ∨ h.op = 4)) (h3 : ¬ h.op = 5) (h4 : ¬ (h.op = 6 ∨ h.op = 7)) : hdOk h ks = false := by unfold hdOk; rw [if_neg h1, if_neg h2, if_neg h3, if_neg h4]

set_option maxHeartbeats 4000000 in
theorem alone_any (h : Ph) (s : Kv) (ks : List Pd) (w : World) (hk : Kd w s ks) (hl : ks.length ≤ 1000000000) (hc : h.col.length ≤ 1000000000) :
    Calls Tryz.prog 62 #[pdV h s] w fun e w' => e = .returned (.bool (hdOk h ks)) ∧ Fr Non w w' := by
  have hn := hk.len
  have B0 := Lib.hid (pd_new w _ h s rfl)
  have F0 : Hid (Fr Non w _) := Lib.hid ((Fr.refl Non w).alloc (.cells (pdC h s) 28))
  have HK := Lib.hid (hk.non F0.out)
  have A1 := Lib.hid (fun W => alike_any h ⟨h.op, [], 0, zCl, 0, []⟩ s noKv W)
  have A2 := Lib.hid (fun W => mayask_any h s W hc)
  have A3 := Lib.hid (fun W hk => haskid_any h s ks h.op W hk hl)
  have H1 := Lib.hid (fun e => hd_one (h := h) (ks := ks) e)
  have H2 := Lib.hid (fun e => hd_ask (h := h) (ks := ks) e)
  have H3 := Lib.hid (fun e => hd_not (h := h) (ks := ks) e)
  have H4 := Lib.hid (fun e => hd_two (h := h) (ks := ks) e)
  have H5 := Lib.hid (fun a b c d => hd_none (h := h) (ks := ks) a b c d)
  clear hk
  obtain ⟨op, col, cmp, ⟨vn, vi, vt⟩, kind, pat⟩ := h
  obtain ⟨sA, n, sc⟩ := s
  dsimp only at hn
  have HL := Lib.hid hn
  clear hn
  unfold pdV pdC kidV at *
  unfold noKv at A1
  unfold zCl at A1 H1 H3 H4
  dsimp only at *
  by_cases h1 : op = 1
  · subst h1
    have HE := Lib.hid (H1.out rfl)
    clear H1 H2 H3 H4 H5 A2 A3 HK
    by_cases h0 : n = 0
    · subst h0
      have HE2 := Lib.hid (decide_eq_true HL.out.symm)
      go_enter Tryz.func62, Tryz.ntmps62
      go_wp2_with fail
      refine (A1.out _).mono ?_
      rintro e w1 ⟨rfl, f1⟩
      go_wp2
      go_ret
      exact ⟨ret_boolE (by rw [HE.out, HE2.out]; rfl), F0.out.trans f1⟩
    · have hb : ((n : Int) == 0) = false := by rw [beq_eq_false_iff_ne]; omega
      have HE2 : Hid (decide (ks.length = 0) = false) := Lib.hid (decide_eq_false (fun e => h0 (HL.out.trans e)))
      clear h0
      go_enter Tryz.func62, Tryz.ntmps62
      go_wp2
      go_ret
      exact ⟨ret_boolE (by rw [HE.out, HE2.out]; rfl), F0.out⟩
  · by_cases h2 : op = 2
    · subst h2
      have HE := Lib.hid (H2.out (by omega))
      clear H1 H2 H3 H4 H5 A1 A3 HK
      by_cases h0 : n = 0
      · subst h0
        have HE2 := Lib.hid (decide_eq_true HL.out.symm)
        go_enter Tryz.func62, Tryz.ntmps62
        go_wp2_with fail
        refine (A2.out _).mono ?_
        rintro e w1 ⟨rfl, f1⟩
        go_wp2
        go_ret
        exact ⟨ret_boolE (by rw [HE.out, HE2.out]; rfl), F0.out.trans f1⟩
      · have hb : ((n : Int) == 0) = false := by rw [beq_eq_false_iff_ne]; omega
        have HE2 : Hid (decide (ks.length = 0) = false) := Lib.hid (decide_eq_false (fun e => h0 (HL.out.trans e)))
        clear h0
        go_enter Tryz.func62, Tryz.ntmps62
        go_wp2
        go_ret
        exact ⟨ret_boolE (by rw [HE.out, HE2.out]; rfl), F0.out⟩
    · by_cases h3 : op = 3
      · subst h3
        have HE := Lib.hid (H2.out (by omega))
        clear H1 H2 H3 H4 H5 A1 A3 HK
        by_cases h0 : n = 0
        · subst h0
          have HE2 := Lib.hid (decide_eq_true HL.out.symm)
          go_enter Tryz.func62, Tryz.ntmps62
          go_wp2_with fail
          refine (A2.out _).mono ?_
          rintro e w1 ⟨rfl, f1⟩
          go_wp2
          go_ret
          exact ⟨ret_boolE (by rw [HE.out, HE2.out]; rfl), F0.out.trans f1⟩
        · have hb : ((n : Int) == 0) = false := by rw [beq_eq_false_iff_ne]; omega
          have HE2 : Hid (decide (ks.length = 0) = false) := Lib.hid (decide_eq_false (fun e => h0 (HL.out.trans e)))
          clear h0
          go_enter Tryz.func62, Tryz.ntmps62
          go_wp2
          go_ret
          exact ⟨ret_boolE (by rw [HE.out, HE2.out]; rfl), F0.out⟩
      · by_cases h4 : op = 4
        · subst h4
          have HE := Lib.hid (H2.out (by omega))
          clear H1 H2 H3 H4 H5 A1 A3 HK
          by_cases h0 : n = 0
          · subst h0
            have HE2 := Lib.hid (decide_eq_true HL.out.symm)
            go_enter Tryz.func62, Tryz.ntmps62
            go_wp2_with fail
            refine (A2.out _).mono ?_
            rintro e w1 ⟨rfl, f1⟩
            go_wp2
            go_ret
            exact ⟨ret_boolE (by rw [HE.out, HE2.out]; rfl), F0.out.trans f1⟩
          · have hb : ((n : Int) == 0) = false := by rw [beq_eq_false_iff_ne]; omega
            have HE2 : Hid (decide (ks.length = 0) = false) := Lib.hid (decide_eq_false (fun e => h0 (HL.out.trans e)))
            clear h0
            go_enter Tryz.func62, Tryz.ntmps62
            go_wp2
            go_ret
            exact ⟨ret_boolE (by rw [HE.out, HE2.out]; rfl), F0.out⟩
        · by_cases h5 : op = 5
          · subst h5
            have HE := Lib.hid (H3.out rfl)
            clear H1 H2 H3 H4 H5 A2 A3 HK
            by_cases h0 : n = 1
            · subst h0
              have HE2 := Lib.hid (decide_eq_true HL.out.symm)
              go_enter Tryz.func62, Tryz.ntmps62
              go_wp2_with fail
              refine (A1.out _).mono ?_
              rintro e w1 ⟨rfl, f1⟩
              go_wp2
              go_ret
              exact ⟨ret_boolE (by rw [HE.out, HE2.out]; rfl), F0.out.trans f1⟩
            · have hb : ((n : Int) == 1) = false := by rw [beq_eq_false_iff_ne]; omega
              have HE2 : Hid (decide (ks.length = 1) = false) := Lib.hid (decide_eq_false (fun e => h0 (HL.out.trans e)))
              clear h0
              go_enter Tryz.func62, Tryz.ntmps62
              go_wp2
              go_ret
              exact ⟨ret_boolE (by rw [HE.out, HE2.out]; rfl), F0.out⟩
          · by_cases h6 : op = 6
            · subst h6
              have HE := Lib.hid (H4.out (by omega))
              clear H1 H2 H3 H4 H5 A2
              by_cases h0 : 1 < n
              · have HE2 : Hid (decide (1 < ks.length) = true) := Lib.hid (decide_eq_true (by have := HL.out; omega))
                generalize hq : peq ⟨6, col, cmp, ⟨vn, vi, vt⟩, kind, pat⟩ _ = q at *
                clear hq
                go_enter Tryz.func62, Tryz.ntmps62
                go_wp2_with fail
                refine (A1.out _).mono ?_
                rintro e w1 ⟨rfl, f1⟩
                obtain ⟨g0, g1, g2, g3, g4, g5, g6, g7, g8⟩ := pdB_cells (B0.out.fr f1 (fun e => e))
                dsimp only at g0 g1 g2 g3 g4 g5 g6 g7 g8
                have HK1 := Lib.hid (HK.out.non f1)
                have F1 := Lib.hid (F0.out.trans f1)
                clear f1 F0 B0
                cases q
                · go_wp2
                  go_ret
                  exact ⟨ret_boolE (by rw [HE.out, HE2.out]; rfl), F1.out⟩
                · go_wp2_with fail
                  refine (A3.out _ HK1.out).mono ?_
                  rintro e w2 ⟨rfl, f2⟩
                  go_wp2
                  go_ret
                  exact ⟨ret_boolE (by rw [HE.out, HE2.out]; rfl), F1.out.trans f2⟩
              · have HE2 : Hid (decide (1 < ks.length) = false) := Lib.hid (decide_eq_false (by have := HL.out; omega))
                clear A1 A3
                go_enter Tryz.func62, Tryz.ntmps62
                go_wp2
                go_ret
                exact ⟨ret_boolE (by rw [HE.out, HE2.out]; rfl), F0.out⟩
            · by_cases h7 : op = 7
              · subst h7
                have HE := Lib.hid (H4.out (by omega))
                clear H1 H2 H3 H4 H5 A2
                by_cases h0 : 1 < n
                · have HE2 : Hid (decide (1 < ks.length) = true) := Lib.hid (decide_eq_true (by have := HL.out; omega))
                  generalize hq : peq ⟨7, col, cmp, ⟨vn, vi, vt⟩, kind, pat⟩ _ = q at *
                  clear hq
                  go_enter Tryz.func62, Tryz.ntmps62
                  go_wp2_with fail
                  refine (A1.out _).mono ?_
                  rintro e w1 ⟨rfl, f1⟩
                  obtain ⟨g0, g1, g2, g3, g4, g5, g6, g7, g8⟩ := pdB_cells (B0.out.fr f1 (fun e => e))
                  dsimp only at g0 g1 g2 g3 g4 g5 g6 g7 g8
                  have HK1 := Lib.hid (HK.out.non f1)
                  have F1 := Lib.hid (F0.out.trans f1)
                  clear f1 F0 B0
                  cases q
                  · go_wp2
                    go_ret
                    exact ⟨ret_boolE (by rw [HE.out, HE2.out]; rfl), F1.out⟩
                  · go_wp2_with fail
                    refine (A3.out _ HK1.out).mono ?_
                    rintro e w2 ⟨rfl, f2⟩
                    go_wp2
                    go_ret
                    exact ⟨ret_boolE (by rw [HE.out, HE2.out]; rfl), F1.out.trans f2⟩
                · have HE2 : Hid (decide (1 < ks.length) = false) := Lib.hid (decide_eq_false (by have := HL.out; omega))
                  clear A1 A3
                  go_enter Tryz.func62, Tryz.ntmps62
                  go_wp2
                  go_ret
                  exact ⟨ret_boolE (by rw [HE.out, HE2.out]; rfl), F0.out⟩
              · have HE := Lib.hid (H5.out h1 (by omega) h5 (by omega))
                clear H1 H2 H3 H4 H5 A1 A2 A3 HK B0
                go_enter Tryz.func62, Tryz.ntmps62
                go_wp2
                go_ret
                exact ⟨ret_boolE HE.out.symm, F0.out⟩
end Go.Proofs.YtipgaafgnefmdaaGreatDoor


namespace Go.Proofs.YtipgaafgnefmdaaGreatDoor
set_option linter.unusedVariables false
set_option linter.unusedSimpArgs false
set_option maxRecDepth 100000
open Go.RowKit

theorem lenP_mk {h : Ph} {ks : List Pd} (e : lenP (.mk h ks) = true) : ks.length ≤ 20 ∧ h.col.length ≤ 100 ∧ h.pat.length ≤ 100 ∧ h.val.txt.length ≤ 100 ∧ ∀ k ∈ ks, lenP k = true := by
  rw [lenP, Bool.and_eq_true, lenL_all] at e
  unfold lenH at e
  have e1 := of_decide_eq_true e.1
  exact ⟨e1.1, e1.2.1, e1.2.2.1, e1.2.2.2, List.all_eq_true.1 e.2⟩
theorem allL_at {σ : Type} {f : σ → Pd → Nat → Option σ} {ks : List Pd} {k : Nat} (h : k < ks.length) (s : σ) (d : Nat) : allL f (ks.drop k) s d = (allP f ks[k] s d).bind fun s' => allL f (ks.drop (k + 1)) s' d := by
  rw [List.drop_eq_getElem_cons h, allL]
theorem allL_end {σ : Type} {f : σ → Pd → Nat → Option σ} {ks : List Pd} {k : Nat} (h : ks.length ≤ k) (s : σ) (d : Nat) : allL f (ks.drop k) s d = some s := by
  rw [List.drop_eq_nil_of_le h, allL]

/-- how an asking ends: by what f says; of the old blocks those of X may have changed -/
def AskEnd {σ : Type} (R : World → σ → (Nat → Prop) → Prop) (r : Option σ) (X : Nat → Prop) (W : World) (e : Ending) (w' : World) : Prop :=
  e = .returned (.bool r.isSome) ∧ Fr X W w' ∧ ∀ s', r = some s' → ∃ X', R w' s' X' ∧ ∀ q, X' q → X q ∨ W.heap.size ≤ q
/-- what the function asked does -/
def Asks {σ : Type} (R : World → σ → (Nat → Prop) → Prop) (f : σ → Pd → Nat → Option σ) (F g : Nat) (w0 : World) : Prop :=
  ∀ (W : World) (s : σ) (X : Nat → Prop) (p : Pd) (t : Kv) (d : Nat) (dz : Int), dz = d → Fr Non w0 W → R W s X → Kd w0 t p.kids → I64b p.hd.val.num → bigP p = true → d + depP p ≤ 1000 →
    Calls Tryz.prog F #[pdV p.hd t, .int .i64 dz, .pointer (some ⟨g, 0, none⟩)] W (AskEnd R (f s p d) X W)
set_option maxHeartbeats 4000000 in
theorem all_any {σ : Type} (R : World → σ → (Nat → Prop) → Prop) (f : σ → Pd → Nat → Option σ) (F g : Nat) (w0 : World)
    (hlt : ∀ W s X, R W s X → ∀ q, X q → w0.heap.size ≤ q ∧ q < W.heap.size) (hR : ∀ W W' s X, R W s X → Fr Non W W' → R W' s X) (hcf : ∀ args W, (callFunc F args).run Tryz.prog W = .ok (.enter F args) W) (hask : Asks R f F g w0) (p : Pd) :
    ∀ (W : World) (s : σ) (X : Nat → Prop) (t : Kv) (d : Nat) (dz : Int), dz = d → Fr Non w0 W → R W s X → Kd w0 t p.kids → I64b p.hd.val.num → bigP p = true → d + depP p ≤ 1000 →
    Calls Tryz.prog 60 #[pdV p.hd t, .int .i64 dz, .func (.func F) #[] #[.pointer (some ⟨g, 0, none⟩)]] W (AskEnd R (allP f p s d) X W) := by
  induction p using Pd.ind with
  | h hd ks ih =>
    intro W s X t d dz hdz hF hr hk hb hlen hdep
    subst hdz
    have hn : t.n = ks.length := hk.len
    have hls := (bigP_mk hlen).1
    have hdd : d ≤ 999 := by have := dep_pos (.mk hd ks); omega
    have F1 : Fr Non W (W.alloc (.cells (pdC hd t) 28)) := (Fr.refl Non W).alloc _
    have hr1 := hR _ _ _ _ hr F1
    have A1 := hask _ s X (.mk hd ks) t d (d : Int) rfl (hF.trans F1) hr1 hk hb hlen hdep
    have hXb : ¬ X W.heap.size := fun h => by have := (hlt _ _ _ hr _ h).2; omega
    have B0 := Lib.hid (pd_new W _ hd t rfl)
    have HS : Hid (allP f (.mk hd ks) s d = (f s (.mk hd ks) d).bind fun s' => allL f ks s' (d + 1)) := Lib.hid (by rw [allP])
    generalize f s (.mk hd ks) d = r at *
    generalize allP f (.mk hd ks) s d = r0 at *
    have IH : Hid (∀ k (h : k < ks.length) (W' : World) (s' : σ) (X' : Nat → Prop) (t' : Kv), Fr Non w0 W' → R W' s' X' → Kd w0 t' ks[k].kids → I64b ks[k].hd.val.num →
        Calls Tryz.prog 60 #[pdV ks[k].hd t', .int .i64 ((d : Int) + 1), .func (.func F) #[] #[.pointer (some ⟨g, 0, none⟩)]] W' (AskEnd R (allP f ks[k] s' (d + 1)) X' W')) :=
      Lib.hid (fun k h W' s' X' t' a b c e => ih _ (List.getElem_mem h) W' s' X' t' (d + 1) _ (by simp) a b c e ((bigP_mk hlen).2.2.2.2 _ (List.getElem_mem h)) (by
        rw [depP] at hdep
        have := depL_mem (List.getElem_mem h)
        omega))
    have HKd : Hid (Kd w0 t ks) := Lib.hid hk
    have HF := Lib.hid hF
    have HLT := Lib.hid hlt
    have HR := Lib.hid hR
    have HR0 := Lib.hid hr
    have HF1 := Lib.hid F1
    clear ih hk hb hlen hdep hask hlt hR hr hr1 hF F1
    obtain ⟨ho, hc, hm, ⟨vn, vi, vt⟩, hkd, hp⟩ := hd
    obtain ⟨A, n, c⟩ := t
    dsimp only at hn
    subst hn
    unfold pdV pdC kidV at A1 ⊢
    dsimp only [Pd.hd, Pd.kids] at A1 ⊢
    have A1 := Lib.hid A1
    go_enter Tryz.func60, Tryz.ntmps60
    go_wp2_with fail
    refine A1.out.mono ?_
    rintro e w1 ⟨rfl, f1, hs1⟩
    have HS1 := Lib.hid hs1
    have g8 := (B0.out.fr f1 hXb).cell 8
    simp [pdC, kidV] at g8
    have FX : Hid (Fr X W w1) := Lib.hid (HF1.out.any.trans f1)
    have hsz : W.heap.size ≤ w1.heap.size := FX.out.size
    clear hs1 f1 A1 hXb
    cases r with
    | none =>
      have HE : Hid (r0 = none) := Lib.hid (by rw [HS.out]; rfl)
      go_wp2
      go_ret
      exact ⟨by rw [HE.out]; rfl, FX.out, fun s' h => by rw [HE.out] at h; cases h⟩
    | some s1 =>
      have HE : Hid (r0 = allL f ks s1 (d + 1)) := Lib.hid (by rw [HS.out]; rfl)
      clear HS
      obtain ⟨X1, hr1, hx1⟩ := HS1.out s1 rfl
      have hx2 : ∀ q, X1 q → X q ∨ W.heap.size ≤ q := fun q hq => (hx1 q hq).imp id (fun h => Nat.le_trans HF1.out.size h)
      clear hx1 HS1
      have HR1 := Lib.hid hr1
      have HX2 := Lib.hid hx2
      clear hr1 hx2
      go_wp2
      go_loopw [17] (fun i wr => ∃ (k : Nat) (sk : σ) (Xk : Nat → Prop), k ≤ ks.length ∧ i = .int .i64 k ∧ Hid (r0 = allL f (ks.drop k) sk (d + 1)) ∧ Hid (R wr sk Xk) ∧ Hid (Fr X W wr) ∧ Hid (∀ q, Xk q → X q ∨ W.heap.size ≤ q)) (fun i _ => ks.length - (intOf i).toNat)
      case atStart => exact ⟨0, s1, X1, Nat.zero_le _, rfl, HE, HR1, FX, HX2⟩
      case round =>
        clear HE HR1 FX HX2 g8 hsz
        obtain ⟨k, sk, Xk, hk, rfl, HE, HR1, FX, HX2⟩ := hrel
        have hFw : Hid (Fr Non w0 wr) := Lib.hid (HF.out.join FX.out (fun q hq h => absurd (HLT.out _ _ _ HR0.out q h).1 (by omega)))
        by_cases hlt : k < ks.length
        · obtain ⟨a, t, hA, hc2, hkk, hbb⟩ := HKd.out.el k hlt
          have hc3 : PCells wr (a.add (k * 9)) ks[k].hd t := by
            obtain ⟨a', t', hA', hc', _, _⟩ := (HKd.out.non hFw.out).el k hlt
            dsimp only at hA hA'
            obtain rfl := Option.some.inj (hA.symm.trans hA')
            have e : t' = t := by
              have x1 := hc'.2.2.2.2.2.2.2.2
              have x2 := hc2.2.2.2.2.2.2.2.2
              have hbl : (a.add (k * 9)).block < w0.heap.size := World.block_lt_of_cell? w0 _ hc2.1
              have x3 := hFw.out.cell (p := { block := (a.add (k * 9)).block, off := (a.add (k * 9)).off + 8 }) hbl (fun e => e)
              rw [x3, x2] at x1
              simp only [Option.some.injEq, Value.slice.injEq] at x1
              obtain ⟨y1, y2, y3⟩ := x1
              cases t; cases t'; simp_all
            rw [e] at hc'; exact hc'
          clear hc2
          dsimp only at hA
          subst hA
          obtain ⟨c0, c1, c2, c3, c4, c5, c6, c7, c8⟩ := hc3
          have HC := Lib.hid (fun W' s' X' a b => IH.out k hlt W' s' X' t a b hkk hbb)
          have HY := Lib.hid (HE.out.trans (allL_at hlt sk (d + 1)))
          clear hkk hbb HE
          generalize allP f ks[k] = ff at *
          generalize ks[k].hd = x at *
          obtain ⟨xo, xc, xm, ⟨xn, xi, xt⟩, xk, xp⟩ := x
          obtain ⟨tA, tn, tc⟩ := t
          dsimp only at c0 c1 c2 c3 c4 c5 c6 c7 c8
          have G1 := Lib.hid ((Fr.refl Non wr).alloc (.cells #[.int .i64 xo, .string ⟨xc.toArray⟩, .int .i64 xm, .bool xn, .int .i64 xi, .string ⟨xt.toArray⟩, .int .i64 xk, .string ⟨xp.toArray⟩, .slice tA tn tc] 28))
          have HC2 := Lib.hid (HC.out _ sk Xk (hFw.out.trans G1.out) (HR.out _ _ _ _ HR1.out G1.out))
          have hXl := HLT.out _ _ _ HR1.out
          have HXl := Lib.hid hXl
          clear HC hXl
          unfold pdV pdC kidV at HC2
          dsimp only at HC2
          generalize ff sk (d + 1) = rr at *
          go_wp2_with fail
          refine HC2.out.mono ?_
          rintro e w2 ⟨rfl, f2, hs2⟩
          have HS2 := Lib.hid hs2
          have FX2 : Hid (Fr X W w2) := Lib.hid (FX.out.join (G1.out.any.trans f2) (fun q hq h => by
            rcases HX2.out q h with h | h
            · exact h
            · omega))
          have hsz2 : W.heap.size ≤ wr.heap.size := FX.out.size
          clear hs2 f2 HC2
          cases rr with
          | none =>
            have HE : Hid (r0 = none) := Lib.hid HY.out
            clear HY HS2
            go_wp2
            go_ret
            exact ⟨by rw [HE.out]; rfl, FX2.out, fun s' h => by rw [HE.out] at h; cases h⟩
          | some s2 =>
            obtain ⟨X2, hr2, hx2⟩ := HS2.out s2 rfl
            have HE : Hid (r0 = allL f (ks.drop (k + 1)) s2 (d + 1)) := Lib.hid HY.out
            have HR2 := Lib.hid hr2
            have HX3 : Hid (∀ q, X2 q → X q ∨ W.heap.size ≤ q) := Lib.hid (fun q hq => by
              rcases hx2 q hq with h | h
              · exact HX2.out q h
              · refine .inr (Nat.le_trans hsz2 (Nat.le_trans G1.out.size h)))
            clear HY HS2 hr2 hx2
            go_wp2
            go_roundw
            case rel => exact ⟨k + 1, s2, X2, by omega, by go_num, HE, HR2, FX2, HX3⟩
            case measure => simp [intOf]; omega
        · have HE2 : Hid (r0 = some sk) := Lib.hid (HE.out.trans (allL_end (by omega) sk (d + 1)))
          clear HE
          go_wp2
          go_ret
          exact ⟨by rw [HE2.out]; rfl, FX.out, fun s' h => by
            rw [HE2.out] at h
            obtain rfl := Option.some.inj h
            exact ⟨Xk, HR1.out, HX2.out⟩⟩
end Go.Proofs.YtipgaafgnefmdaaGreatDoor


namespace Go.Proofs.YtipgaafgnefmdaaGreatDoor
set_option linter.unusedVariables false
set_option linter.unusedSimpArgs false
set_option maxRecDepth 100000
open Go.RowKit

/-- the count lies in block g -/
def RcM (w0 : World) (g : Nat) (W : World) (n : Nat) (X : Nat → Prop) : Prop := Blk W g 3 #[.int .i64 n] ∧ n ≤ 16 ∧ X = One g ∧ w0.heap.size ≤ g
theorem stepM_no {n : Nat} {p : Pd} {d : Nat} (h : ¬ (n + 1 ≤ 16 ∧ d ≤ 6)) : stepM n p d = none := by unfold stepM; rw [if_neg (fun e => h ⟨e.1, e.2.1⟩)]
theorem stepM_by {n : Nat} {p : Pd} {d : Nat} (h : n + 1 ≤ 16 ∧ d ≤ 6) : stepM n p d = bif hdOk p.hd p.kids then some (n + 1) else none := by
  unfold stepM
  cases hd : hdOk p.hd p.kids
  · rw [if_neg (by simp)]; rfl
  · rw [if_pos ⟨h.1, h.2, rfl⟩]; rfl
set_option maxHeartbeats 2000000 in
theorem may1_any (w0 : World) (g : Nat) : Asks (RcM w0 g) stepM 61 g w0 := by
  intro W n X p t d dz hdz hF hr hk hb hlen hdep
  subst hdz
  obtain ⟨h, ks⟩ := p
  obtain ⟨hB, hn16, rfl, hg0⟩ := hr
  dsimp only [Pd.hd, Pd.kids] at hk hb ⊢
  have hls := bigP_mk hlen
  have F0 : Fr Non W (W.alloc (.cells (pdC h t) 28)) := (Fr.refl Non W).alloc _
  have hB1 := hB.fr F0 (fun e => e)
  have hf0 := hB1.frozen 0
  have hc0 := hB1.cell 0
  have hB2 := (hB.set 0 (.int .i64 ((n : Int) + 1))).fr ((Fr.refl Non _).alloc (.cells (pdC h t) 28)) (fun e => e)
  have hc2 := hB2.cell 0
  have hgl := hB.lt
  have G2 : Fr (One g) W ((W.setCell ⟨g, 0, none⟩ (.int .i64 ((n : Int) + 1))).alloc (.cells (pdC h t) 28)) := ((Fr.refl (One g) W).set1 0 _).alloc _
  have P2 : PdB ((W.setCell ⟨g, 0, none⟩ (.int .i64 ((n : Int) + 1))).alloc (.cells (pdC h t) 28)) W.heap.size h t :=
    pd_new _ _ h t (by simp [World.setCell])
  obtain ⟨g0, g1, g2, g3, g4, g5, g6, g7, g8⟩ := pdB_cells P2
  have hkw : Kd ((W.setCell ⟨g, 0, none⟩ (.int .i64 ((n : Int) + 1))).alloc (.cells (pdC h t) 28)) t ks := hk.non (hF.join G2 (fun q hq e => by have : q = g := e; omega))
  have M := Lib.hid (alone_any h t ks _ hkw (by omega) (by omega))
  have HG := Lib.hid G2
  have HB2 := Lib.hid hB2
  have HN := Lib.hid (fun e => stepM_no (n := n) (p := .mk h ks) (d := d) e)
  have HY := Lib.hid (fun e => stepM_by (n := n) (p := .mk h ks) (d := d) e)
  simp at hc0 hc2
  clear hk hB hB1 hB2 P2 hkw F0 G2 hlen hdep hls hF
  obtain ⟨ho, hc, hm, ⟨vn, vi, vt⟩, hkd, hp⟩ := h
  obtain ⟨A, nn, c⟩ := t
  unfold pdV pdC kidV at *
  dsimp only at *
  by_cases h1 : n + 1 ≤ 16
  · by_cases h6 : d ≤ 6
    · have HE := Lib.hid (HY.out ⟨h1, h6⟩)
      clear HY HN
      generalize stepM n _ d = r at *
      dsimp only [Pd.hd, Pd.kids] at HE
      generalize hdOk _ ks = b at *
      go_enter Tryz.func61, Tryz.ntmps61
      go_wp2_with fail
      refine M.out.mono ?_
      rintro e w1 ⟨rfl, f1⟩
      go_wp2
      go_ret
      refine ⟨by rw [HE.out]; cases b <;> rfl, HG.out.then f1, fun s' hs => ?_⟩
      rw [HE.out] at hs
      cases b
      · cases hs
      · obtain rfl := Option.some.inj hs
        exact ⟨One g, ⟨HB2.out.fr f1 (fun e => e), h1, rfl, hg0⟩, fun q hq => .inl hq⟩
    · have HE := Lib.hid (HN.out (by omega))
      have hd1 : decide ((n : Int) + 1 ≤ 16) = true := decide_eq_true (by omega)
      have hd2 : decide ((d : Int) ≤ 6) = false := decide_eq_false (by omega)
      clear HY HN M
      generalize stepM n _ d = r at *
      go_enter Tryz.func61, Tryz.ntmps61
      go_wp2
      go_ret
      exact ⟨by rw [HE.out]; rfl, HG.out, fun s' hs => by rw [HE.out] at hs; cases hs⟩
  · have HE := Lib.hid (HN.out (by omega))
    have hd1 : decide ((n : Int) + 1 ≤ 16) = false := decide_eq_false (by omega)
    clear HY HN M
    generalize stepM n _ d = r at *
    go_enter Tryz.func61, Tryz.ntmps61
    go_wp2
    go_ret
    exact ⟨by rw [HE.out]; rfl, HG.out, fun s' hs => by rw [HE.out] at hs; cases hs⟩

set_option maxHeartbeats 2000000 in
theorem pmay_big (h : Ph) (t : Kv) (ks : List Pd) (w : World) (hk : Kd w t ks) (hb : I64b h.val.num) (hlen : bigP (.mk h ks) = true) (hdep : depP (.mk h ks) ≤ 100) :
    Calls Tryz.prog 32 #[pdV h t] w fun e w' => e = .returned (.bool (mayP (.mk h ks))) ∧ Fr Non w w' := by
  have F0 : Fr Non w (w.alloc (.cells (pdC h t) 28)) := (Fr.refl Non w).alloc _
  have F1 : Fr Non w ((w.alloc (.cells (pdC h t) 28)).alloc (.cells #[.int .i64 0] 3)) := F0.alloc _
  have e1 : (w.alloc (.cells (pdC h t) 28)).heap.size = w.heap.size + 1 := by simp
  have b2 := Blk.new (w.alloc (.cells (pdC h t) 28)) 3 #[.int .i64 0]
  rw [e1] at b2
  have hR0 : RcM w (w.heap.size + 1) ((w.alloc (.cells (pdC h t) 28)).alloc (.cells #[.int .i64 0] 3)) 0 (One (w.heap.size + 1)) := ⟨b2, by omega, rfl, by omega⟩
  have A1 := all_any (RcM w (w.heap.size + 1)) stepM 61 (w.heap.size + 1) w
    (fun W s X hr q hq => by
      obtain ⟨a, b, rfl, c⟩ := hr
      obtain rfl : q = w.heap.size + 1 := hq
      exact ⟨c, a.lt⟩)
    (fun W W' s X hr hf => ⟨hr.1.fr hf (fun e => e), hr.2⟩) Tryz.call61 (may1_any w (w.heap.size + 1)) (.mk h ks)
    _ 0 _ t 1 1 rfl F1 hR0 hk hb hlen (by omega)
  have HM : Hid ((allP stepM (.mk h ks) 0 1).isSome = mayP (.mk h ks)) := Lib.hid (may_all _)
  generalize allP stepM (.mk h ks) 0 1 = r at *
  dsimp only [Pd.hd, Pd.kids] at A1
  have A1 := Lib.hid A1
  have F1 := Lib.hid F1
  have P0 : PdB ((w.alloc (.cells (pdC h t) 28)).alloc (.cells #[.int .i64 0] 3)) w.heap.size h t := (pd_new w _ h t rfl).fr ((Fr.refl Non _).alloc _) (fun e => e)
  obtain ⟨g0, g1, g2, g3, g4, g5, g6, g7, g8⟩ := pdB_cells P0
  have hmf : ∀ (fn : Fn) (first cap : Array Value) (w : World), (Instr.makeFunc fn first cap).run Tryz.prog w = .ok (.func fn first cap) w := fun _ _ _ _ => rfl
  clear hk F0 hR0 b2 e1 P0 hlen hdep
  obtain ⟨ho, hc, hm, ⟨vn, vi, vt⟩, hkd, hp⟩ := h
  obtain ⟨A, nn, c⟩ := t
  unfold pdV pdC kidV at *
  dsimp only at *
  go_enter Tryz.func32, Tryz.ntmps32
  go_wp2_with fail
  refine A1.out.mono ?_
  rintro e w1 ⟨rfl, f1, _⟩
  go_wp2
  go_ret
  exact ⟨ret_boolE HM.out, F1.out.join f1 (fun q hq e => by have : q = w.heap.size + 1 := e; omega)⟩
end Go.Proofs.YtipgaafgnefmdaaGreatDoor
