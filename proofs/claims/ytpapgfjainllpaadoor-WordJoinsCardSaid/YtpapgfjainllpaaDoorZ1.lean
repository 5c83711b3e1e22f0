/-
  Joined: Functions of the library at this dump: tables of numbers, and that its text is the shelf's. · Words of our own on memory, for all texts of this seat: what changed between two worlds (Fr), a known block (Blk), bytes that a slice reads as (Bs), bytes in a row of the call's own (Own), and the steps append and convert over them. · Numbers in digits: what digits are of, read again; the texts that are some number's. And a text with each quote twice, or each two quotes once, by the library's replacing. Nothing of the program. · The runes of a text, as a range over it tells them: of lists of bytes; where texts are put together with a letter below 128 between; the bytes of runes, and that they are read again. · The tokens of a text: of lists of bytes; what a rune at a text's head tells of its first byte. Nothing of the program. · Layer 16: what lies in the program's and the library's variables; the library's functions on texts and numbers, in plain words. · Slices of slices of bytes that the call owns (Owns), and the steps that append one slice, or one value of one cell, to a row of the call's own. · Slices of one-celled elements of any type: what one reads as (Vs), a row of the call's own (Ow), and the steps over them: append of one, append of many, make, copy, cuts. · Layer 15: words on runes and on a text's iterator; the walks of glob.small, glob.Fold, firkinref15.Fold. · Layer 16: which runes may be what (the program's); how far (while), and where a text ends (closed). · Layer 16: where a text ends (closed). · The frame of a law's proof, for any parameters: where the call returned true and turned nothing that was there, the row's words hold. · Slices of structs of k one-celled fields, of any type: what one reads as (Ns), a row of the call's own (No), and the steps over them: made, stored into, append of one, append of many, opened. · Layer 16: a token as a value, of both programs; slices of tokens; the texts (word.text). · Layer 16: names, numbers, marks; the first word (the program's).
-/
import Derived.Deep.Slices
import Derived.Shelf.Strings.Replace
import Derived.Shelf.Strconv.Itoa4
import Derived.Shelf.Strconv.ErrVarParseInt
import Derived.Shelf.Strings.Prefix
import Derived.Test.YtpapgfjainllpaaDoorProg
import Derived.WalkKit
import Derived.WalkSpells
import Derived.Deep.AppendSrc
import Derived.Maps.AppendAt
import Derived.Lib.Hide
import Derived.Deep.Draws
import Derived.Lib.AppendStr
import Derived.Lib.ItoaLen
import Derived.Lib.ItoaMem
import Derived.Lib.ParseIntBCases
import Derived.Lib.ParseIntBTie
import Derived.Lib.Replace
import Derived.Lib.CountLaws
import Derived.Lib.DecodeN
import Derived.Laws.RangeAny
import Derived.Laws.Cover4
import Derived.Lib.SmallJoins
import Derived.Lib.AppendIntMem
import Derived.Laws.CopyOwn
import Derived.Laws.OwnMore
import Derived.Lib.OthersKept
import Derived.BigQuiet
import Derived.Test.YtpapgfjainllpaaDoorRows
import Derived.ProofKit
import Derived.OpenShut
import Derived.ShutString
import Derived.ChangeOld
import Derived.Below
import Derived.BigFrame
import Derived.Laws.StructEq
import Derived.Laws.Rows
import Derived.Laws.ResultCell
import Derived.Deep.RegionHeld3

namespace Go.Proofs.YtpapgfjainllpaaDoor
set_option linter.unusedVariables false
set_option linter.unusedSimpArgs false
def lay_rep_ren : Go.Shelf.Ren := ⟨fun | 155 => 18 | 154 => 31 | 138 => 39 | 165 => 40 | 143 => 41 | 166 => 42 | 197 => 43 | 169 => 44 | 195 => 53 | 218 => 54 | 240 => 55 | 241 => 56 | 219 => 57 | 260 => 58 | 276 => 69 | 277 => 70 | 217 => 71 | 225 => 72 | 224 => 73 | 267 => 74 | 266 => 82 | 314 => 83 | n => n, fun | 9 => 9 | 3 => 3 | 4 => 4 | 72 => 68 | 0 => 0 | 76 => 70 | 105 => 72 | 21 => 21 | 5 => 5 | 70 => 66 | 20 => 20 | 37 => 47 | 75 => 60 | 127 => 83 | 164 => 98 | 46 => 90 | 119 => 101 | 139 => 104 | 138 => 103 | 146 => 110 | 51 => 87 | 80 => 74 | n => n, fun | 1 => 2 | 3 => 3 | 4 => 4 | n => n⟩
theorem lay_rep : Go.Proofs.Lays.n155 Tryd.prog lay_rep_ren := {
  mixed := by kernel_rfl
  f138 := Tryd.func39.trans (congrArg some (by kernel_rfl))
  f143 := Tryd.func41.trans (congrArg some (by kernel_rfl))
  f154 := Tryd.func31.trans (congrArg some (by kernel_rfl))
  f155 := Tryd.func18.trans (congrArg some (by kernel_rfl))
  f165 := Tryd.func40.trans (congrArg some (by kernel_rfl))
  f166 := Tryd.func42.trans (congrArg some (by kernel_rfl))
  f169 := Tryd.func44.trans (congrArg some (by kernel_rfl))
  f195 := Tryd.func53.trans (congrArg some (by kernel_rfl))
  f197 := Tryd.func43.trans (congrArg some (by kernel_rfl))
  f217 := Tryd.func71.trans (congrArg some (by kernel_rfl))
  f218 := Tryd.func54.trans (congrArg some (by kernel_rfl))
  f219 := Tryd.func57.trans (congrArg some (by kernel_rfl))
  f224 := Tryd.func73.trans (congrArg some (by kernel_rfl))
  f225 := Tryd.func72.trans (congrArg some (by kernel_rfl))
  f240 := Tryd.func55.trans (congrArg some (by kernel_rfl))
  f241 := Tryd.func56.trans (congrArg some (by kernel_rfl))
  f260 := Tryd.func58.trans (congrArg some (by kernel_rfl))
  f266 := Tryd.func82.trans (congrArg some (by kernel_rfl))
  f267 := Tryd.func74.trans (congrArg some (by kernel_rfl))
  f276 := Tryd.func69.trans (congrArg some (by kernel_rfl))
  f277 := Tryd.func70.trans (congrArg some (by kernel_rfl))
  f314 := Tryd.func83.trans (congrArg some (by kernel_rfl))
  t0 := Tryd.underlying0
  a0 := Tryd.isAgg0
  z0 := Tryd.sizeOf0
  v0 := Tryd.zeroValue0
  t3 := Tryd.underlying3
  a3 := Tryd.isAgg3
  z3 := Tryd.sizeOf3
  v3 := Tryd.zeroValue3
  t4 := Tryd.underlying4
  a4 := Tryd.isAgg4
  z4 := Tryd.sizeOf4
  v4 := Tryd.zeroValue4
  t5 := Tryd.underlying5
  a5 := Tryd.isAgg5
  z5 := Tryd.sizeOf5
  v5 := Tryd.zeroValue5
  t9 := Tryd.underlying9
  a9 := Tryd.isAgg9
  z9 := Tryd.sizeOf9
  v9 := Tryd.zeroValue9
  t20 := Tryd.underlying20
  a20 := Tryd.isAgg20
  z20 := Tryd.sizeOf20
  v20 := Tryd.zeroValue20
  t21 := Tryd.underlying21
  a21 := Tryd.isAgg21
  z21 := Tryd.sizeOf21
  v21 := Tryd.zeroValue21
  t37 := Tryd.underlying47
  a37 := Tryd.isAgg47
  z37 := Tryd.sizeOf47
  v37 := Tryd.zeroValue47
  t46 := Tryd.underlying90
  a46 := Tryd.isAgg90
  z46 := Tryd.sizeOf90
  v46 := Tryd.zeroValue90
  t51 := Tryd.underlying87
  a51 := Tryd.isAgg87
  z51 := Tryd.sizeOf87
  v51 := Tryd.zeroValue87
  t70 := Tryd.underlying66
  a70 := Tryd.isAgg66
  z70 := Tryd.sizeOf66
  v70 := Tryd.zeroValue66
  t72 := Tryd.underlying68
  a72 := Tryd.isAgg68
  z72 := Tryd.sizeOf68
  v72 := Tryd.zeroValue68
  t75 := Tryd.underlying60
  a75 := Tryd.isAgg60
  z75 := Tryd.sizeOf60
  v75 := Tryd.zeroValue60
  t76 := Tryd.underlying70
  a76 := Tryd.isAgg70
  z76 := Tryd.sizeOf70
  v76 := Tryd.zeroValue70
  t105 := Tryd.underlying72
  a105 := Tryd.isAgg72
  z105 := Tryd.sizeOf72
  v105 := Tryd.zeroValue72
  t119 := Tryd.underlying101
  a119 := Tryd.isAgg101
  z119 := Tryd.sizeOf101
  t127 := Tryd.underlying83
  a127 := Tryd.isAgg83
  z127 := Tryd.sizeOf83
  v127 := Tryd.zeroValue83
  t138 := Tryd.underlying103
  a138 := Tryd.isAgg103
  z138 := Tryd.sizeOf103
  v138 := Tryd.zeroValue103
  t139 := Tryd.underlying104
  a139 := Tryd.isAgg104
  z139 := Tryd.sizeOf104
  v139 := Tryd.zeroValue104
  t146 := Tryd.underlying110
  a146 := Tryd.isAgg110
  z146 := Tryd.sizeOf110
  v146 := Tryd.zeroValue110
  t164 := Tryd.underlying98
  a164 := Tryd.isAgg98
  z164 := Tryd.sizeOf98
  v164 := Tryd.zeroValue98
  g1 := by kernel_rfl
  g3 := by kernel_rfl
  g4 := by kernel_rfl }
def lay_fmt_ren : Go.Shelf.Ren := ⟨fun | 173 => 19 | 246 => 32 | 283 => 45 | 284 => 46 | 285 => 47 | 286 => 48 | 129 => 60 | 317 => 59 | 318 => 61 | 319 => 62 | 320 => 63 | 337 => 75 | 338 => 76 | n => n, fun | 2 => 2 | 3 => 3 | 9 => 9 | 4 => 4 | 171 => 76 | 0 => 0 | 53 => 48 | 37 => 47 | 5 => 5 | 173 => 79 | 212 => 86 | 51 => 87 | 20 => 20 | 213 => 88 | 46 => 90 | 232 => 112 | 233 => 113 | n => n, fun | 17 => 1 | 18 => 7 | 19 => 8 | n => n⟩
theorem lay_fmt : Go.Proofs.LaysM.n173 Tryd.prog lay_fmt_ren := {
  mixed := by kernel_rfl
  f129 := Tryd.func60.trans (congrArg some (by kernel_rfl))
  f173 := Tryd.func19.trans (congrArg some (by kernel_rfl))
  f246 := Tryd.func32.trans (congrArg some (by kernel_rfl))
  f283 := Tryd.func45.trans (congrArg some (by kernel_rfl))
  f284 := Tryd.func46.trans (congrArg some (by kernel_rfl))
  f285 := Tryd.func47.trans (congrArg some (by kernel_rfl))
  f286 := Tryd.func48.trans (congrArg some (by kernel_rfl))
  f317 := Tryd.func59.trans (congrArg some (by kernel_rfl))
  f318 := Tryd.func61.trans (congrArg some (by kernel_rfl))
  f319 := Tryd.func62.trans (congrArg some (by kernel_rfl))
  f320 := Tryd.func63.trans (congrArg some (by kernel_rfl))
  f337 := Tryd.func75.trans (congrArg some (by kernel_rfl))
  f338 := Tryd.func76.trans (congrArg some (by kernel_rfl))
  t0 := Tryd.underlying0
  a0 := Tryd.isAgg0
  z0 := Tryd.sizeOf0
  v0 := Tryd.zeroValue0
  t2 := Tryd.underlying2
  a2 := Tryd.isAgg2
  z2 := Tryd.sizeOf2
  v2 := Tryd.zeroValue2
  t3 := Tryd.underlying3
  a3 := Tryd.isAgg3
  z3 := Tryd.sizeOf3
  v3 := Tryd.zeroValue3
  t4 := Tryd.underlying4
  a4 := Tryd.isAgg4
  z4 := Tryd.sizeOf4
  v4 := Tryd.zeroValue4
  t5 := Tryd.underlying5
  a5 := Tryd.isAgg5
  z5 := Tryd.sizeOf5
  v5 := Tryd.zeroValue5
  t9 := Tryd.underlying9
  a9 := Tryd.isAgg9
  z9 := Tryd.sizeOf9
  v9 := Tryd.zeroValue9
  t20 := Tryd.underlying20
  a20 := Tryd.isAgg20
  z20 := Tryd.sizeOf20
  v20 := Tryd.zeroValue20
  t37 := Tryd.underlying47
  a37 := Tryd.isAgg47
  z37 := Tryd.sizeOf47
  v37 := Tryd.zeroValue47
  t46 := Tryd.underlying90
  a46 := Tryd.isAgg90
  z46 := Tryd.sizeOf90
  v46 := Tryd.zeroValue90
  t51 := Tryd.underlying87
  a51 := Tryd.isAgg87
  z51 := Tryd.sizeOf87
  v51 := Tryd.zeroValue87
  t53 := Tryd.underlying48
  a53 := Tryd.isAgg48
  z53 := Tryd.sizeOf48
  v53 := Tryd.zeroValue48
  t171 := Tryd.underlying76
  a171 := Tryd.isAgg76
  z171 := Tryd.sizeOf76
  v171 := Tryd.zeroValue76
  t173 := Tryd.underlying79
  a173 := Tryd.isAgg79
  z173 := Tryd.sizeOf79
  v173 := Tryd.zeroValue79
  t212 := Tryd.underlying86
  a212 := Tryd.isAgg86
  z212 := Tryd.sizeOf86
  v212 := Tryd.zeroValue86
  t213 := Tryd.underlying88
  a213 := Tryd.isAgg88
  z213 := Tryd.sizeOf88
  t232 := Tryd.underlying112
  a232 := Tryd.isAgg112
  z232 := Tryd.sizeOf112
  v232 := Tryd.zeroValue112
  t233 := Tryd.underlying113
  a233 := Tryd.isAgg113
  z233 := Tryd.sizeOf113
  v233 := Tryd.zeroValue113
  g17 := by kernel_rfl
  g18 := by kernel_rfl
  g19 := by kernel_rfl
  i0 := by kernel_rfl
  i2 := by kernel_rfl
  i3 := by kernel_rfl
  i4 := by kernel_rfl
  i5 := by kernel_rfl
  i9 := by kernel_rfl
  i20 := by kernel_rfl
  i37 := by kernel_rfl
  i46 := by kernel_rfl
  i51 := by kernel_rfl
  i53 := by kernel_rfl
  i171 := by kernel_rfl
  i173 := by kernel_rfl
  i212 := by kernel_rfl
  i232 := by kernel_rfl
  i233 := by kernel_rfl
  m17 := by kernel_rfl
  m18 := by kernel_rfl
  m19 := by kernel_rfl }
def lay_prs_ren : Go.Shelf.Ren := ⟨fun | 174 => 36 | 247 => 50 | 245 => 51 | 287 => 64 | 279 => 65 | 280 => 66 | 281 => 67 | 282 => 68 | 321 => 77 | 322 => 78 | 316 => 79 | 171 => 81 | 205 => 80 | 243 => 84 | 246 => 32 | 283 => 45 | 284 => 46 | 285 => 47 | 286 => 48 | 129 => 60 | 317 => 59 | 318 => 61 | 319 => 62 | 320 => 63 | 337 => 75 | 338 => 76 | n => n, fun | 9 => 9 | 3 => 3 | 2 => 2 | 75 => 60 | 85 => 61 | 4 => 4 | 167 => 92 | 5 => 5 | 53 => 48 | 175 => 93 | 46 => 90 | 168 => 95 | 37 => 47 | 0 => 0 | 210 => 108 | 21 => 21 | 127 => 83 | 145 => 116 | 143 => 114 | 171 => 76 | 173 => 79 | 212 => 86 | 51 => 87 | 20 => 20 | 213 => 88 | 232 => 112 | 233 => 113 | 80 => 74 | n => n, fun | 15 => 5 | 16 => 6 | 17 => 1 | 18 => 7 | 19 => 8 | n => n⟩
theorem lay_prs : Go.Proofs.LaysC.n174 Tryd.prog lay_prs_ren := {
  mixed := by kernel_rfl
  f129 := Tryd.func60.trans (congrArg some (by kernel_rfl))
  f171 := Tryd.func81.trans (congrArg some (by kernel_rfl))
  f174 := Tryd.func36.trans (congrArg some (by kernel_rfl))
  f205 := Tryd.func80.trans (congrArg some (by kernel_rfl))
  f243 := Tryd.func84.trans (congrArg some (by kernel_rfl))
  f245 := Tryd.func51.trans (congrArg some (by kernel_rfl))
  f246 := Tryd.func32.trans (congrArg some (by kernel_rfl))
  f247 := Tryd.func50.trans (congrArg some (by kernel_rfl))
  f279 := Tryd.func65.trans (congrArg some (by kernel_rfl))
  f280 := Tryd.func66.trans (congrArg some (by kernel_rfl))
  f281 := Tryd.func67.trans (congrArg some (by kernel_rfl))
  f282 := Tryd.func68.trans (congrArg some (by kernel_rfl))
  f283 := Tryd.func45.trans (congrArg some (by kernel_rfl))
  f284 := Tryd.func46.trans (congrArg some (by kernel_rfl))
  f285 := Tryd.func47.trans (congrArg some (by kernel_rfl))
  f286 := Tryd.func48.trans (congrArg some (by kernel_rfl))
  f287 := Tryd.func64.trans (congrArg some (by kernel_rfl))
  f316 := Tryd.func79.trans (congrArg some (by kernel_rfl))
  f317 := Tryd.func59.trans (congrArg some (by kernel_rfl))
  f318 := Tryd.func61.trans (congrArg some (by kernel_rfl))
  f319 := Tryd.func62.trans (congrArg some (by kernel_rfl))
  f320 := Tryd.func63.trans (congrArg some (by kernel_rfl))
  f321 := Tryd.func77.trans (congrArg some (by kernel_rfl))
  f322 := Tryd.func78.trans (congrArg some (by kernel_rfl))
  f337 := Tryd.func75.trans (congrArg some (by kernel_rfl))
  f338 := Tryd.func76.trans (congrArg some (by kernel_rfl))
  t0 := Tryd.underlying0
  a0 := Tryd.isAgg0
  z0 := Tryd.sizeOf0
  v0 := Tryd.zeroValue0
  t2 := Tryd.underlying2
  a2 := Tryd.isAgg2
  z2 := Tryd.sizeOf2
  v2 := Tryd.zeroValue2
  t3 := Tryd.underlying3
  a3 := Tryd.isAgg3
  z3 := Tryd.sizeOf3
  v3 := Tryd.zeroValue3
  t4 := Tryd.underlying4
  a4 := Tryd.isAgg4
  z4 := Tryd.sizeOf4
  v4 := Tryd.zeroValue4
  t5 := Tryd.underlying5
  a5 := Tryd.isAgg5
  z5 := Tryd.sizeOf5
  v5 := Tryd.zeroValue5
  t9 := Tryd.underlying9
  a9 := Tryd.isAgg9
  z9 := Tryd.sizeOf9
  v9 := Tryd.zeroValue9
  t20 := Tryd.underlying20
  a20 := Tryd.isAgg20
  z20 := Tryd.sizeOf20
  v20 := Tryd.zeroValue20
  t21 := Tryd.underlying21
  a21 := Tryd.isAgg21
  z21 := Tryd.sizeOf21
  v21 := Tryd.zeroValue21
  t37 := Tryd.underlying47
  a37 := Tryd.isAgg47
  z37 := Tryd.sizeOf47
  v37 := Tryd.zeroValue47
  t46 := Tryd.underlying90
  a46 := Tryd.isAgg90
  z46 := Tryd.sizeOf90
  v46 := Tryd.zeroValue90
  t51 := Tryd.underlying87
  a51 := Tryd.isAgg87
  z51 := Tryd.sizeOf87
  v51 := Tryd.zeroValue87
  t53 := Tryd.underlying48
  a53 := Tryd.isAgg48
  z53 := Tryd.sizeOf48
  v53 := Tryd.zeroValue48
  t75 := Tryd.underlying60
  a75 := Tryd.isAgg60
  z75 := Tryd.sizeOf60
  v75 := Tryd.zeroValue60
  t85 := Tryd.underlying61
  a85 := Tryd.isAgg61
  z85 := Tryd.sizeOf61
  v85 := Tryd.zeroValue61
  t127 := Tryd.underlying83
  a127 := Tryd.isAgg83
  z127 := Tryd.sizeOf83
  v127 := Tryd.zeroValue83
  t143 := Tryd.underlying114
  a143 := Tryd.isAgg114
  z143 := Tryd.sizeOf114
  v143 := Tryd.zeroValue114
  t145 := Tryd.underlying116
  a145 := Tryd.isAgg116
  z145 := Tryd.sizeOf116
  v145 := Tryd.zeroValue116
  t167 := Tryd.underlying92
  a167 := Tryd.isAgg92
  z167 := Tryd.sizeOf92
  v167 := Tryd.zeroValue92
  t168 := Tryd.underlying95
  a168 := Tryd.isAgg95
  z168 := Tryd.sizeOf95
  v168 := Tryd.zeroValue95
  t171 := Tryd.underlying76
  a171 := Tryd.isAgg76
  z171 := Tryd.sizeOf76
  v171 := Tryd.zeroValue76
  t173 := Tryd.underlying79
  a173 := Tryd.isAgg79
  z173 := Tryd.sizeOf79
  v173 := Tryd.zeroValue79
  t175 := Tryd.underlying93
  a175 := Tryd.isAgg93
  z175 := Tryd.sizeOf93
  v175 := Tryd.zeroValue93
  t210 := Tryd.underlying108
  a210 := Tryd.isAgg108
  z210 := Tryd.sizeOf108
  v210 := Tryd.zeroValue108
  t212 := Tryd.underlying86
  a212 := Tryd.isAgg86
  z212 := Tryd.sizeOf86
  v212 := Tryd.zeroValue86
  t213 := Tryd.underlying88
  a213 := Tryd.isAgg88
  z213 := Tryd.sizeOf88
  t232 := Tryd.underlying112
  a232 := Tryd.isAgg112
  z232 := Tryd.sizeOf112
  v232 := Tryd.zeroValue112
  t233 := Tryd.underlying113
  a233 := Tryd.isAgg113
  z233 := Tryd.sizeOf113
  v233 := Tryd.zeroValue113
  g15 := by kernel_rfl
  g16 := by kernel_rfl
  g17 := by kernel_rfl
  g18 := by kernel_rfl
  g19 := by kernel_rfl
  t80 := Tryd.underlying74
  a80 := Tryd.isAgg74
  z80 := Tryd.sizeOf74
  v80 := Tryd.zeroValue74
  i0 := by kernel_rfl
  i2 := by kernel_rfl
  i3 := by kernel_rfl
  i4 := by kernel_rfl
  i5 := by kernel_rfl
  i9 := by kernel_rfl
  i20 := by kernel_rfl
  i21 := by kernel_rfl
  i37 := by kernel_rfl
  i46 := by kernel_rfl
  i51 := by kernel_rfl
  i53 := by kernel_rfl
  i75 := by kernel_rfl
  i80 := by kernel_rfl
  i85 := by kernel_rfl
  i127 := by kernel_rfl
  i143 := by kernel_rfl
  i145 := by kernel_rfl
  i167 := by kernel_rfl
  i168 := by kernel_rfl
  i171 := by kernel_rfl
  i173 := by kernel_rfl
  i175 := by kernel_rfl
  i210 := by kernel_rfl
  i212 := by kernel_rfl
  i232 := by kernel_rfl
  i233 := by kernel_rfl
  m15 := by kernel_rfl
  m16 := by kernel_rfl
  m17 := by kernel_rfl
  m18 := by kernel_rfl
  m19 := by kernel_rfl
  c0 := by kernel_rfl
  c2 := by kernel_rfl
  c3 := by kernel_rfl
  c4 := by kernel_rfl
  c5 := by kernel_rfl
  c9 := by kernel_rfl
  c20 := by kernel_rfl
  c21 := by kernel_rfl
  c37 := by kernel_rfl
  c46 := by kernel_rfl
  c51 := by kernel_rfl
  c53 := by kernel_rfl
  c75 := by kernel_rfl
  c80 := by kernel_rfl
  c85 := by kernel_rfl
  c127 := by kernel_rfl
  c143 := by kernel_rfl
  c145 := by kernel_rfl
  c167 := by kernel_rfl
  c168 := by kernel_rfl
  c171 := by kernel_rfl
  c173 := by kernel_rfl
  c175 := by kernel_rfl
  c210 := by kernel_rfl
  c212 := by kernel_rfl
  c213 := by kernel_rfl
  c232 := by kernel_rfl
  c233 := by kernel_rfl }
def lay_has_ren : Go.Shelf.Ren := ⟨fun | 99 => 38 | 206 => 52 | n => n, fun | 9 => 9 | 4 => 4 | 3 => 3 | n => n, fun | n => n⟩
theorem lay_has : Go.Proofs.Lays.n99 Tryd.prog lay_has_ren := {
  mixed := by kernel_rfl
  f99 := Tryd.func38.trans (congrArg some (by kernel_rfl))
  f206 := Tryd.func52.trans (congrArg some (by kernel_rfl))
  t3 := Tryd.underlying3
  a3 := Tryd.isAgg3
  z3 := Tryd.sizeOf3
  v3 := Tryd.zeroValue3
  t4 := Tryd.underlying4
  a4 := Tryd.isAgg4
  z4 := Tryd.sizeOf4
  v4 := Tryd.zeroValue4
  t9 := Tryd.underlying9
  a9 := Tryd.isAgg9
  z9 := Tryd.sizeOf9
  v9 := Tryd.zeroValue9 }
def lay_trm_ren : Go.Shelf.Ren := ⟨fun | 101 => 35 | 208 => 49 | 206 => 52 | n => n, fun | 9 => 9 | 4 => 4 | 3 => 3 | n => n, fun | n => n⟩
theorem lay_trm : Go.Proofs.Lays.n101 Tryd.prog lay_trm_ren := {
  mixed := by kernel_rfl
  f101 := Tryd.func35.trans (congrArg some (by kernel_rfl))
  f206 := Tryd.func52.trans (congrArg some (by kernel_rfl))
  f208 := Tryd.func49.trans (congrArg some (by kernel_rfl))
  t3 := Tryd.underlying3
  a3 := Tryd.isAgg3
  z3 := Tryd.sizeOf3
  v3 := Tryd.zeroValue3
  t4 := Tryd.underlying4
  a4 := Tryd.isAgg4
  z4 := Tryd.sizeOf4
  v4 := Tryd.zeroValue4
  t9 := Tryd.underlying9
  a9 := Tryd.isAgg9
  z9 := Tryd.sizeOf9
  v9 := Tryd.zeroValue9 }

end Go.Proofs.YtpapgfjainllpaaDoor


namespace Go.Proofs.YtpapgfjainllpaaDoor
set_option linter.unusedVariables false
set_option linter.unusedSimpArgs false
set_option maxRecDepth 100000
open Go.RowKit

/-! ### What changed: of the blocks that were there, at most those of S -/
structure Fr (S : Nat → Prop) (w w' : World) : Prop where
  os : w'.os = w.os
  tape : w'.tape = w.tape
  output : w'.output = w.output
  size : w.heap.size ≤ w'.heap.size
  block : ∀ k, k < w.heap.size → ¬ S k → w'.heap[k]? = w.heap[k]?

/-- nothing -/
def Non : Nat → Prop := fun _ => False
/-- one block -/
def One (g : Nat) : Nat → Prop := fun k => k = g

theorem Fr.refl (S : Nat → Prop) (w : World) : Fr S w w := ⟨rfl, rfl, rfl, Nat.le_refl _, fun _ _ _ => rfl⟩
theorem Fr.join {S S' : Nat → Prop} {w w1 w2 : World} (h : Fr S w w1) (h' : Fr S' w1 w2) (hs : ∀ k, k < w.heap.size → S' k → S k) : Fr S w w2 :=
  ⟨h'.os.trans h.os, h'.tape.trans h.tape, h'.output.trans h.output, Nat.le_trans h.size h'.size,
    fun k hk hn => (h'.block k (Nat.lt_of_lt_of_le hk h.size) (fun e => hn (hs k hk e))).trans (h.block k hk hn)⟩
theorem Fr.trans {S : Nat → Prop} {w w1 w2 : World} (h : Fr S w w1) (h' : Fr S w1 w2) : Fr S w w2 := h.join h' fun _ _ e => e
theorem Fr.then {S : Nat → Prop} {w w1 w2 : World} (h : Fr S w w1) (h' : Fr Non w1 w2) : Fr S w w2 := h.join h' fun _ _ e => e.elim
theorem Fr.mono {S S' : Nat → Prop} {w w' : World} (h : Fr S w w') (hs : ∀ k, k < w.heap.size → S k → S' k) : Fr S' w w' :=
  ⟨h.os, h.tape, h.output, h.size, fun k hk hn => h.block k hk fun e => hn (hs k hk e)⟩
theorem Fr.any {S : Nat → Prop} {w w' : World} (h : Fr Non w w') : Fr S w w' := h.mono fun _ _ e => e.elim
theorem Fr.fresh {S S' : Nat → Prop} {w w1 w2 : World} (h : Fr S w w1) (h' : Fr S' w1 w2) (hs : ∀ k, S' k → w.heap.size ≤ k) : Fr S w w2 :=
  h.join h' fun k hk e => absurd (hs k e) (by omega)
theorem Fr.drew {S : Nat → Prop} {w w' : World} (h : Fr S w w') : Fr S w w'.drew := ⟨h.os, h.tape, h.output, h.size, h.block⟩
theorem Fr.drewN {S : Nat → Prop} {w w' : World} (h : Fr S w w') (n : Nat) : Fr S w (w'.drewN n) := ⟨h.os, h.tape, h.output, h.size, h.block⟩
theorem Fr.alloc {S : Nat → Prop} {w w' : World} (h : Fr S w w') (o : Obj) : Fr S w (w'.alloc o) :=
  h.then ⟨rfl, rfl, rfl, by simp, fun k hk _ => Below.heap_alloc _ _ _ hk⟩
theorem Fr.setCell {S : Nat → Prop} {w w' : World} (h : Fr S w w') {p : Addr} (hp : p.block < w.heap.size → S p.block) (u : Value) : Fr S w (w'.setCell p u) :=
  ⟨h.os, h.tape, h.output, by simpa [World.setCell] using h.size, fun k hk hn => (Below.heap_setCell w' p u k (fun e => hn (by subst e; exact hp hk))).trans (h.block k hk hn)⟩
theorem Fr.set1 {g : Nat} {w w' : World} (h : Fr (One g) w w') (i : Nat) (u : Value) : Fr (One g) w (w'.setCell ⟨g, i, none⟩ u) := h.setCell (p := ⟨g, i, none⟩) (fun _ => rfl) u
theorem Fr.of_below {w w' : World} (h : Below w.heap.size w w') : Fr Non w w' := ⟨h.os, h.tape, h.output, h.size, fun k hk _ => h.block k hk⟩
theorem Fr.below {w w' : World} (h : Fr Non w w') : Below w.heap.size w w' := ⟨h.os, h.tape, h.output, h.size, fun k hk => h.block k hk fun e => e⟩
theorem Fr.of_grown {w w' : World} {row : Option Nat} (h : w.grownBy w' row) : Fr (fun k => row = some k) w w' :=
  ⟨h.os, h.tape, h.output, h.size, fun k hk hn => h.block k hk (fun e => hn e.symm)⟩
theorem Fr.cell {S : Nat → Prop} {w w' : World} (h : Fr S w w') {p : Addr} (hp : p.block < w.heap.size) (hn : ¬ S p.block) : w'.cell? p = w.cell? p := World.cell?_of_block (h.block _ hp hn)

theorem ret_int {k : IntKind} {a b : Int} (h : a = b) : Ending.returned (.int k a) = .returned (.int k b) := by rw [h]

/-! ### A block that is known whole -/
def Blk (w : World) (g : Nat) (t : TypeId) (cs : Array Value) : Prop := w.heap[g]? = some (.cells cs t (0, 0))
theorem Blk.lt {w : World} {g : Nat} {t : TypeId} {cs : Array Value} (h : Blk w g t cs) : g < w.heap.size := (Array.getElem?_eq_some_iff.1 h).1
theorem Blk.cell {w : World} {g : Nat} {t : TypeId} {cs : Array Value} (h : Blk w g t cs) (i : Nat) : w.cell? ⟨g, i, none⟩ = cs[i]? := cell_of_row w g i cs t (0, 0) h
theorem Blk.frozen {w : World} {g : Nat} {t : TypeId} {cs : Array Value} (h : Blk w g t cs) (i : Nat) : w.frozen? ⟨g, i, none⟩ = false := by
  unfold Blk at h; simp [World.frozen?, h]
theorem Blk.new (w : World) (t : TypeId) (cs : Array Value) : Blk (w.alloc (.cells cs t)) w.heap.size t cs := heap_alloc_new w _
theorem Blk.fr {S : Nat → Prop} {w w' : World} {g : Nat} {t : TypeId} {cs : Array Value} (h : Blk w g t cs) (hf : Fr S w w') (hn : ¬ S g) : Blk w' g t cs := (hf.block g h.lt hn).trans h
theorem Blk.set {w : World} {g : Nat} {t : TypeId} {cs : Array Value} (h : Blk w g t cs) (i : Nat) (u : Value) : Blk (w.setCell ⟨g, i, none⟩ u) g t (cs.setIfInBounds i u) := by
  unfold Blk at h ⊢; simp [World.setCell, Array.getElem?_modify, h]
theorem Blk.drew {w : World} {g : Nat} {t : TypeId} {cs : Array Value} (h : Blk w g t cs) : Blk w.drew g t cs := h
/-! ### Bytes -/
def bv (b : UInt8) : Value := .int .u8 b.toNat
theorem add_block (a : Addr) (n : Nat) : (a.add n).block = a.block := by unfold Addr.add; split <;> rfl
theorem add_add (a : Addr) (i j : Nat) : (a.add i).add j = a.add (i + j) := by
  unfold Addr.add
  by_cases hi : i = 0 <;> by_cases hj : j = 0 <;> simp [hi, hj, Nat.add_assoc]

/-- the slice v reads as the bytes l -/
def Bs (w : World) (v : Value) (l : List UInt8) : Prop :=
  ∃ A c, v = .slice A l.length c ∧ l.length ≤ c ∧ (A = none → c = 0) ∧ ∀ a, A = some a → ∀ j (h : j < l.length), w.cell? (a.add j) = some (bv l[j])

theorem Bs.nil_ (w : World) : Bs w (.slice none 0 0) [] := ⟨none, 0, rfl, Nat.le_refl _, fun _ => rfl, fun _ h => by cases h⟩
theorem Bs.keep {w w' : World} {v : Value} {l : List UInt8} (h : Bs w v l) (hk : ∀ k, v.ownBlock = some k → k < w.heap.size → w'.heap[k]? = w.heap[k]?) : Bs w' v l := by
  obtain ⟨A, c, rfl, h1, h2, h3⟩ := h
  refine ⟨A, c, rfl, h1, h2, fun a ha j hj => ?_⟩
  have := h3 a ha j hj
  subst ha
  have hb := World.block_lt_of_cell? w _ this
  rw [add_block] at hb
  rw [← this]
  exact World.cell?_of_block (by rw [add_block]; exact hk _ rfl hb)
theorem Bs.fr {S : Nat → Prop} {w w' : World} {v : Value} {l : List UInt8} (h : Bs w v l) (hf : Fr S w w') (hn : ∀ k, v.ownBlock = some k → ¬ S k) : Bs w' v l :=
  h.keep fun k hk hlt => hf.block k hlt (hn k hk)
theorem Bs.non {w w' : World} {v : Value} {l : List UInt8} (h : Bs w v l) (hf : Fr Non w w') : Bs w' v l := h.fr hf fun _ _ e => e
theorem Bs.drew {w : World} {v : Value} {l : List UInt8} (h : Bs w v l) : Bs w.drew v l := h
theorem Bs.shape {w : World} {v : Value} {l : List UInt8} (h : Bs w v l) : ∃ A c, v = .slice A l.length c := by
  obtain ⟨A, c, rfl, _⟩ := h; exact ⟨A, c, rfl⟩

/-- bytes that the call owns: a row of its own, from block B on -/
def Own (w : World) (B : Nat) (v : Value) (l : List UInt8) : Prop := w.ownsRow B 5 1 v l.length (l.map bv)
theorem Own.lt {w : World} {B : Nat} {v : Value} {l : List UInt8} (h : Own w B v l) : ∀ k, v.ownBlock = some k → B ≤ k ∧ k < w.heap.size := World.ownsRow.lt h
theorem Own.bs {w : World} {B : Nat} {v : Value} {l : List UInt8} (h : Own w B v l) : Bs w v l := by
  rcases h.2 with ⟨rfl, h0⟩ | ⟨g, cap, cur, rfl, _, _, hle, _, _, _⟩
  · have hl : l = [] := List.eq_nil_of_length_eq_zero h0
    subst hl; exact Bs.nil_ w
  · refine ⟨_, cap, rfl, hle, (fun h => by cases h), fun a ha j hj => ?_⟩
    cases ha
    exact World.ownsRow.cells h (g := g) rfl j _ (by simp [hj])
theorem Own.keep {w w' : World} {B : Nat} {v : Value} {l : List UInt8} (h : Own w B v l) (hk : ∀ k, v.ownBlock = some k → w'.heap[k]? = w.heap[k]?) : Own w' B v l := by
  refine ⟨h.1, ?_⟩
  rcases h.2 with h2 | ⟨g, cap, cur, hv, hb, hg, r⟩
  · exact .inl h2
  · exact .inr ⟨g, cap, cur, hv, hb, by rw [hk g (by rw [hv]; rfl)]; exact hg, r⟩
theorem Own.fr {S : Nat → Prop} {w w' : World} {B : Nat} {v : Value} {l : List UInt8} (h : Own w B v l) (hf : Fr S w w') (hn : ∀ k, v.ownBlock = some k → ¬ S k) : Own w' B v l :=
  h.keep fun k hk => hf.block k (h.lt k hk).2 (hn k hk)
theorem Own.non {w w' : World} {B : Nat} {v : Value} {l : List UInt8} (h : Own w B v l) (hf : Fr Non w w') : Own w' B v l := h.fr hf fun _ _ e => e
theorem Own.alloc {w : World} {B : Nat} {v : Value} {l : List UInt8} (h : Own w B v l) (o : Obj) : Own (w.alloc o) B v l := h.non ((Fr.refl _ _).alloc o)
theorem Own.mono {w : World} {B B' : Nat} {v : Value} {l : List UInt8} (h : Own w B v l) (hB : B' ≤ B) : Own w B' v l := by
  refine ⟨h.1, ?_⟩
  rcases h.2 with h2 | ⟨g, cap, cur, hv, hb, r⟩
  · exact .inl h2
  · exact .inr ⟨g, cap, cur, hv, by omega, r⟩

theorem Own.row {w : World} {B : Nat} {v : Value} {l : List UInt8} (h : Own w B v l) (hn : l ≠ []) : ∃ g cap, v = .slice (some ⟨g, 0, none⟩) l.length cap ∧ B ≤ g ∧ g < w.heap.size ∧ l.length ≤ cap ∧ cap ≤ maxLen := by
  rcases h.2 with ⟨rfl, h0⟩ | ⟨g, cap, cur, rfl, hb, hg, hle, hm, _⟩
  · exact absurd (List.eq_nil_of_length_eq_zero h0) hn
  · exact ⟨g, cap, rfl, hb, (Array.getElem?_eq_some_iff.1 hg).1, hle, hm⟩
theorem Own.cell {w : World} {B g n cap : Nat} {l : List UInt8} (h : Own w B (.slice (some ⟨g, 0, none⟩) n cap) l) (hn : n = l.length) (j : Nat) (b : UInt8) (hb : l[j]? = some b) : w.cell? ⟨g, j, none⟩ = some (.int .u8 b.toNat) := by
  subst hn
  have hj : j < l.length := (List.getElem?_eq_some_iff.1 hb).1
  rw [World.ownsRow.cellAt h j (by omega), List.getElem?_map, hb]; rfl
theorem Own.frozen {w : World} {B g n cap : Nat} {l : List UInt8} (h : Own w B (.slice (some ⟨g, 0, none⟩) n cap) l) (hn : n = l.length) (j : Nat) : w.frozen? ⟨g, j, none⟩ = false := by
  subst hn; exact World.ownsRow.frozenAt h j
theorem Own.drew {w : World} {B : Nat} {v : Value} {l : List UInt8} (h : Own w B v l) : Own w.drew B v l := h

/-! ### A slice of slices of bytes -/
def Bss (w : World) (v : Value) (ls : List (List UInt8)) : Prop :=
  ∃ A c, v = .slice A ls.length c ∧ ls.length ≤ c ∧ (A = none → c = 0) ∧ ∀ a, A = some a → ∀ j (h : j < ls.length), ∃ u, w.cell? (a.add j) = some u ∧ Bs w u ls[j]
theorem Bss.non {w w' : World} {v : Value} {ls : List (List UInt8)} (h : Bss w v ls) (hf : Fr Non w w') : Bss w' v ls := by
  obtain ⟨A, c, rfl, h1, h2, h3⟩ := h
  refine ⟨A, c, rfl, h1, h2, fun a ha j hj => ?_⟩
  obtain ⟨u, hu, hb⟩ := h3 a ha j hj
  exact ⟨u, by rw [← hu]; exact hf.cell (World.block_lt_of_cell? w _ hu) (fun e => e), hb.non hf⟩
/-! ### Pieces of a slice of bytes -/
end Go.Proofs.YtpapgfjainllpaaDoor


namespace Go.Proofs.YtpapgfjainllpaaDoor
set_option linter.unusedVariables false
set_option linter.unusedSimpArgs false
set_option maxRecDepth 100000

def digB (c : UInt8) : Bool := decide (48 ≤ c.toNat ∧ c.toNat ≤ 57)
/-- the number that digits are of -/
def numF (a : Nat) : List UInt8 → Nat
  | [] => a
  | c :: r => numF (10 * a + (c.toNat - 48)) r
def numD (l : List UInt8) : Nat := numF 0 l
theorem numF_app (l m : List UInt8) : ∀ a, numF a (l ++ m) = numF (numF a l) m := by
  induction l with
  | nil => intro a; rfl
  | cons c l ih => intro a; exact ih _
theorem numF_le : ∀ (l : List UInt8) (a : Nat), a ≤ numF a l
  | [], a => Nat.le_refl _
  | c :: l, a => by have := numF_le l (10 * a + (c.toNat - 48)); unfold numF; omega
theorem dec_digits (u : Nat) : (Lib.decDigits u).all digB = true := by
  induction u using Nat.strongRecOn with
  | _ u ih =>
    by_cases h : u < 10
    · rw [Lib.decDigits, dif_pos h]
      have : (UInt8.ofNat (48 + u)).toNat = 48 + u := by rw [UInt8.toNat_ofNat']; omega
      simp [digB, this]; omega
    · rw [Lib.decDigits, dif_neg h, List.all_append, ih _ (by omega)]
      have : (UInt8.ofNat (48 + u % 10)).toNat = 48 + u % 10 := by rw [UInt8.toNat_ofNat']; omega
      simp [digB, this]; omega
theorem dec_num (u : Nat) : numD (Lib.decDigits u) = u := by
  induction u using Nat.strongRecOn with
  | _ u ih =>
    by_cases h : u < 10
    · rw [Lib.decDigits, dif_pos h]
      have : (UInt8.ofNat (48 + u)).toNat = 48 + u := by rw [UInt8.toNat_ofNat']; omega
      show 10 * 0 + ((UInt8.ofNat (48 + u)).toNat - 48) = u
      rw [this]; omega
    · rw [Lib.decDigits, dif_neg h]
      unfold numD
      rw [numF_app]
      have e := ih (u / 10) (by omega)
      unfold numD at e
      rw [e]
      have : (UInt8.ofNat (48 + u % 10)).toNat = 48 + u % 10 := by rw [UInt8.toNat_ofNat']; omega
      show 10 * (u / 10) + ((UInt8.ofNat (48 + u % 10)).toNat - 48) = u
      rw [this]; omega
theorem dec_pos (u : Nat) : 1 ≤ (Lib.decDigits u).length := by rw [Lib.decDigits_length]; exact Lib.nDigits_pos u
/-- int64 -/
def I64b (x : Int) : Prop := -9223372036854775808 ≤ x ∧ x ≤ 9223372036854775807
theorem parseM_all (M : Nat) (hM : M ≤ 18446744073709551615) : ∀ (l : List UInt8) (a : Nat), l.all digB = true → numF a l ≤ M → Lib.parseUintM M a l = .ok (numF a l)
  | [], a, _, _ => rfl
  | c :: l, a, hd, h => by
    rw [List.all_cons, Bool.and_eq_true] at hd
    have h1 := hd.1
    simp only [digB, decide_eq_true_eq] at h1
    have hle := numF_le l (10 * a + (c.toNat - 48))
    unfold numF at h
    unfold Lib.parseUintM numF
    rw [if_pos h1, if_neg (by omega), if_neg (by omega), show a * 10 + (c.toNat - 48) = 10 * a + (c.toNat - 48) by omega]
    exact parseM_all M hM l _ hd.2 h
theorem parseB_dec (u : Nat) (h : u ≤ 18446744073709551615) : Lib.parseUintB 64 (Lib.decDigits u) = .ok u := by
  unfold Lib.parseUintB
  have hp := dec_pos u
  rw [if_neg (by intro e; rw [e] at hp; simp at hp)]
  have e := dec_num u
  unfold numD at e
  have := parseM_all (2 ^ 64 - 1) (by decide) (Lib.decDigits u) 0 (dec_digits u) (by rw [e]; omega)
  rw [e] at this
  exact this
theorem itoa_up (u : Nat) : Lib.itoa (u : Int) = Lib.decDigits u := Lib.itoa_nonneg u
theorem itoa_down (u : Nat) (h : 1 ≤ u) : Lib.itoa (-(u : Int)) = 45 :: Lib.decDigits u := Lib.itoa_neg u h
theorem int_ways (v : Int) : (∃ u : Nat, v = (u : Int)) ∨ ∃ u : Nat, 1 ≤ u ∧ v = -(u : Int) := by
  by_cases h : 0 ≤ v
  · exact .inl ⟨v.toNat, by omega⟩
  · exact .inr ⟨(-v).toNat, by omega, by omega⟩
theorem parse_itoa (v : Int) (h : I64b v) : Lib.parseIntB 64 (Lib.itoa v) = .ok v := by
  unfold I64b at h
  rcases int_ways v with ⟨u, rfl⟩ | ⟨u, hu, rfl⟩
  · rw [itoa_up]
    have hd := dec_digits u
    have hp := dec_pos u
    have hb := parseB_dec u (by omega)
    cases hl : Lib.decDigits u with
    | nil => rw [hl] at hp; simp at hp
    | cons c r =>
      rw [hl] at hd hb
      rw [List.all_cons, Bool.and_eq_true] at hd
      have h1 := hd.1
      simp only [digB, decide_eq_true_eq] at h1
      rw [Lib.parseIntB_plain 64 c r (by omega) (by omega), hb]
      show (if 2 ^ (64 - 1) ≤ u then Lib.NumEnd.range else Lib.NumEnd.ok (u : Int)) = _
      rw [if_neg (by omega)]
  · rw [itoa_down u hu, Lib.parseIntB_minus, parseB_dec u (by omega)]
    show (if 2 ^ (64 - 1) < u then Lib.NumEnd.range else Lib.NumEnd.ok (-(u : Int))) = _
    rw [if_neg (by omega)]
/-- the number of which a text is the digits -/
def valB (l : List UInt8) : Option Int :=
  match Lib.parseIntB 64 l with
  | .ok v => if Lib.itoa v = l then some v else none
  | _ => none
theorem valB_itoa {v : Int} (h : I64b v) : valB (Lib.itoa v) = some v := by
  unfold valB
  rw [parse_itoa v h]
  simp
/-! ### Replacing -/
theorem rep_hit {s old new : List UInt8} (hne : old ≠ []) (h : old.isPrefixOf s = true) :
    Lib.replaceK old new (Lib.count s old) s = new ++ Lib.replaceK old new (Lib.count (s.drop old.length) old) (s.drop old.length) := by
  have hi : Lib.index s old = ((0 : Nat) : Int) := by
    cases s with
    | nil => cases old with
      | nil => exact absurd rfl hne
      | cons a t => simp at h
    | cons b l => unfold Lib.index; rw [if_pos h]; rfl
  rw [Lib.count_hit hne hi, Nat.add_comm, Lib.replaceK_hit old new _ s 0 hi]
  simp
theorem rep_miss {c : UInt8} {s old new : List UInt8} (hne : old ≠ []) (h : old.isPrefixOf (c :: s) = false) :
    Lib.replaceK old new (Lib.count (c :: s) old) (c :: s) = c :: Lib.replaceK old new (Lib.count s old) s := by
  rcases Lib.index_spec s old with ⟨h1, _⟩ | ⟨i, h1, _⟩
  · have h2 : Lib.index (c :: s) old = -1 := by unfold Lib.index; rw [h, h1]; rfl
    rw [Lib.count_miss h1, Lib.count_miss h2]
    rfl
  · have h2 : Lib.index (c :: s) old = ((i + 1 : Nat) : Int) := by
      unfold Lib.index
      rw [h, h1]
      have : ((i : Int) == -1) = false := by rw [beq_eq_false_iff_ne]; omega
      simp [this]
    rw [Lib.count_hit hne h1, Lib.count_hit hne h2, Nat.add_comm 1, Nat.add_comm 1, Lib.replaceK_hit old new _ s i h1, Lib.replaceK_hit old new _ (c :: s) (i + 1) h2]
    rw [show i + 1 + old.length = (i + old.length) + 1 by omega]
    simp [List.take_succ_cons]
theorem rep_none {old new : List UInt8} (hne : old ≠ []) : Lib.replaceK old new (Lib.count [] old) [] = [] := by
  have : Lib.index [] old = -1 := by
    cases old with
    | nil => exact absurd rfl hne
    | cons a t => rfl
  rw [Lib.count_miss this]; rfl
theorem rep_all {s old new : List UInt8} (h : old ≠ new) : Lib.replaceAll s old new = Lib.replaceK old new (Lib.count s old) s := by
  unfold Lib.replaceAll Lib.replace Lib.replaceNum
  rw [if_neg (by simpa using h), if_pos (by omega)]

/-- each two quotes once -/
def unqB : List UInt8 → List UInt8
  | [] => []
  | [c] => [c]
  | c :: d :: r => if c = 39 ∧ d = 39 then 39 :: unqB r else c :: unqB (d :: r)
theorem unq_rep (s : List UInt8) : Lib.replaceAll s [39, 39] [39] = unqB s := by
  rw [rep_all (by decide)]
  fun_induction unqB s with
  | case1 => exact rep_none (by decide)
  | case2 c => rw [rep_miss (by decide) (by simp [List.isPrefixOf]), rep_none (by decide)]
  | case3 c d r h ih =>
    obtain ⟨rfl, rfl⟩ := h
    rw [rep_hit (by decide) (by simp)]
    simp only [List.length_cons, List.length_nil, List.drop_succ_cons, List.drop_zero]
    rw [ih]; rfl
  | case4 c d r h ih =>
    rw [rep_miss (by decide) (by
      rw [Bool.eq_false_iff]
      intro e
      simp [List.isPrefixOf] at e
      exact h ⟨e.1.symm, e.2.symm⟩), ih]
theorem count_len (s old : List UInt8) : Lib.count s old ≤ s.length + 1 := Lib.count_le s old
end Go.Proofs.YtpapgfjainllpaaDoor


namespace Go.Proofs.YtpapgfjainllpaaDoor
set_option linter.unusedVariables false
set_option linter.unusedSimpArgs false
set_option maxRecDepth 100000

/-- the rune at a text's head, and its width -/
def dcU (l : List UInt8) : Nat × Nat := Lib.decodeN l.length (l.getD 0 0).toNat (l.getD 1 0).toNat (l.getD 2 0).toNat (l.getD 3 0).toNat

theorem getbU (l : List UInt8) (i : Nat) : (⟨l.toArray⟩ : ByteArray).get! i = l.getD i 0 := by
  simp only [ByteArray.get!, List.getElem!_toArray, List.getD_eq_getElem?_getD]
  by_cases h : i < l.length
  · simp [h]
  · simp [List.getElem?_eq_none (Nat.le_of_not_lt h)]
    rfl
theorem dcU_at (l : List UInt8) (k : Nat) : Utf8.decode ⟨l.toArray⟩ k = dcU (l.drop k) := by
  rw [Lib.decode_at]
  unfold dcU
  simp only [getbU]
  have hs : ByteArray.size ⟨l.toArray⟩ = l.length := by simp [ByteArray.size]
  rw [hs, List.length_drop]
  simp only [List.getD_eq_getElem?_getD, List.getElem?_drop, Nat.add_zero]

theorem decN_w (n b0 b1 b2 b3 : Nat) (hn : 1 ≤ n) : 1 ≤ (Lib.decodeN n b0 b1 b2 b3).2 ∧ (Lib.decodeN n b0 b1 b2 b3).2 ≤ n := by
  unfold Lib.decodeN
  repeat' split
  all_goals simp only
  all_goals omega
theorem dcU_w {l : List UInt8} (h : l ≠ []) : 1 ≤ (dcU l).2 ∧ (dcU l).2 ≤ l.length := decN_w _ _ _ _ _ (List.length_pos_iff.2 h)
/-! ### Put together -/
theorem dcU_low {c : UInt8} (l : List UInt8) (h : c.toNat < 128) : dcU (c :: l) = (c.toNat, 1) := by
  unfold dcU Lib.decodeN
  simp [h]
/-! ### The bytes of runes -/
end Go.Proofs.YtpapgfjainllpaaDoor


namespace Go.Proofs.YtpapgfjainllpaaDoor
set_option linter.unusedVariables false
set_option linter.unusedSimpArgs false
set_option maxRecDepth 100000

def letB (c : UInt8) : Bool := decide (97 ≤ c.toNat ∧ c.toNat ≤ 122)
def innB (c : UInt8) : Bool := letB c || digB c || decide (c.toNat = 95)
def blkB (c : UInt8) : Bool := decide (c.toNat = 32 ∨ c.toNat = 9 ∨ c.toNat = 10)
/-- the same, of runes -/
def letR (r : Nat) : Bool := decide (97 ≤ r ∧ r ≤ 122)
def digR (r : Nat) : Bool := decide (48 ≤ r ∧ r ≤ 57)
def innR (r : Nat) : Bool := letR r || digR r || decide (r = 95)
def blkR (r : Nat) : Bool := decide (r = 32 ∨ r = 9 ∨ r = 10)

/-! ### A rune at a text's head -/
theorem decN_high (n b0 b1 b2 b3 : Nat) (h : 128 ≤ b0) : 128 ≤ (Lib.decodeN n b0 b1 b2 b3).1 ∧
    (1 < (Lib.decodeN n b0 b1 b2 b3).2 → 128 ≤ b1) ∧ (2 < (Lib.decodeN n b0 b1 b2 b3).2 → 128 ≤ b2) ∧ (3 < (Lib.decodeN n b0 b1 b2 b3).2 → 128 ≤ b3) ∧ (Lib.decodeN n b0 b1 b2 b3).2 ≤ 4 := by
  unfold Lib.decodeN
  rw [if_neg (by omega)]
  repeat' split
  all_goals simp only
  all_goals omega
theorem dcU_hi {c : UInt8} {r : List UInt8} (h : 128 ≤ c.toNat) : 128 ≤ (dcU (c :: r)).1 ∧ ∀ j, j < (dcU (c :: r)).2 → 128 ≤ ((c :: r).getD j 0).toNat := by
  have H := decN_high (c :: r).length ((c :: r).getD 0 0).toNat ((c :: r).getD 1 0).toNat ((c :: r).getD 2 0).toNat ((c :: r).getD 3 0).toNat h
  refine ⟨H.1, fun j hj => ?_⟩
  have hj' : j < (Lib.decodeN (c :: r).length ((c :: r).getD 0 0).toNat ((c :: r).getD 1 0).toNat ((c :: r).getD 2 0).toNat ((c :: r).getD 3 0).toNat).2 := hj
  match j, hj' with
  | 0, _ => exact h
  | 1, hj' => exact H.2.1 hj'
  | 2, hj' => exact H.2.2.1 hj'
  | 3, hj' => exact H.2.2.2.1 hj'
  | j + 4, hj' => have := H.2.2.2.2; omega
theorem lo_or_hi (c : UInt8) : c.toNat < 128 ∨ 128 ≤ c.toNat := by omega
theorem byt_is (c : UInt8) (n : Nat) (h : n < 256) : (c = UInt8.ofNat n) ↔ c.toNat = n := by
  constructor
  · intro e; subst e; rw [UInt8.toNat_ofNat']; omega
  · intro e; apply UInt8.toNat.inj; rw [UInt8.toNat_ofNat']; omega
/-- a property of low runes, of a text's first rune and of its first byte -/
theorem rune_by (p : Nat → Bool) (hp : ∀ r, 128 ≤ r → p r = false) (c : UInt8) (r : List UInt8) : p (dcU (c :: r)).1 = p c.toNat := by
  rcases lo_or_hi c with h | h
  · rw [dcU_low r h]
  · rw [hp _ (dcU_hi h).1, hp _ h]
theorem let_rune (c : UInt8) (r : List UInt8) : letR (dcU (c :: r)).1 = letB c := rune_by letR (fun r h => by simp [letR]; omega) c r
theorem dig_rune (c : UInt8) (r : List UInt8) : digR (dcU (c :: r)).1 = digB c := rune_by digR (fun r h => by simp [digR]; omega) c r
theorem inn_rune (c : UInt8) (r : List UInt8) : innR (dcU (c :: r)).1 = innB c := rune_by innR (fun r h => by simp [innR, letR, digR]; omega) c r
theorem blk_rune (c : UInt8) (r : List UInt8) : blkR (dcU (c :: r)).1 = blkB c := rune_by blkR (fun r h => by simp [blkR]; omega) c r
theorem is_rune (n : Nat) (hn : n < 128) (c : UInt8) (r : List UInt8) : ((dcU (c :: r)).1 = n) ↔ c = UInt8.ofNat n := by
  rw [byt_is c n (by omega)]
  have := rune_by (fun r => decide (r = n)) (fun r h => by simp; omega) c r
  simpa using this
theorem letB_lo {c : UInt8} (h : letB c = true) : c.toNat < 128 := by simp [letB] at h; omega
theorem digB_lo {c : UInt8} (h : digB c = true) : c.toNat < 128 := by simp [digB] at h; omega
theorem innB_lo {c : UInt8} (h : innB c = true) : c.toNat < 128 := by simp [innB, letB, digB] at h; omega
theorem blkB_lo {c : UInt8} (h : blkB c = true) : c.toNat < 128 := by simp [blkB] at h; omega

/-! ### As long as may be -/
def spanN (p : UInt8 → Bool) : List UInt8 → Nat
  | [] => 0
  | c :: l => if p c then spanN p l + 1 else 0
theorem span_le (p : UInt8 → Bool) : ∀ l, spanN p l ≤ l.length
  | [] => Nat.le_refl _
  | c :: l => by have := span_le p l; unfold spanN; split <;> simp <;> omega
theorem span_yes {p : UInt8 → Bool} {c : UInt8} {l : List UInt8} (h : p c = true) : spanN p (c :: l) = spanN p l + 1 := by
  show (if p c then _ else _) = _; rw [if_pos h]
theorem span_no {p : UInt8 → Bool} {c : UInt8} {l : List UInt8} (h : p c = false) : spanN p (c :: l) = 0 := by
  show (if p c then _ else _) = _; rw [if_neg (by simp [h])]
theorem span_all (p : UInt8 → Bool) : ∀ l : List UInt8, (l.take (spanN p l)).all p = true
  | [] => rfl
  | c :: l => by
    cases h : p c with
    | true => rw [span_yes h, List.take_succ_cons, List.all_cons, h, span_all p l]; rfl
    | false => rw [span_no h]; rfl
theorem span_app {p : UInt8 → Bool} {c : UInt8} (hc : p c = false) : ∀ (l m : List UInt8), spanN p (l ++ c :: m) = spanN p l
  | [], m => span_no hc
  | d :: l, m => by
    cases h : p d with
    | true => rw [List.cons_append, span_yes h, span_yes h, span_app hc l m]
    | false => rw [List.cons_append, span_no h, span_no h]

/-! ### Texts -/
/-- behind a quote: the text, and of how many bytes it is, its end among them -/
def qtB : List UInt8 → Option (List UInt8 × Nat)
  | [] => none
  | [c] => if c = 39 then some ([], 1) else none
  | c :: d :: r =>
    if c = 39 then (if d = 39 then (qtB r).map fun x => (39 :: x.1, x.2 + 2) else some ([], 1))
    else (qtB (d :: r)).map fun x => (c :: x.1, x.2 + 1)
/-- where it ends, by what was seen last -/
def clB : Bool → List UInt8 → Option Nat
  | e, [] => if e then some 0 else none
  | e, c :: r => if c = 39 then (clB (!e) r).map (· + 1) else if e then some 0 else (clB false r).map (· + 1)
theorem qt_cl (r : List UInt8) : clB false r = (qtB r).map (·.2) := by
  fun_induction qtB r with
  | case1 => rfl
  | case2 => rfl
  | case3 c h => simp [clB, h]
  | case4 r ih =>
    simp only [clB, if_true, Bool.not_false, Bool.not_true, ih]
    cases qtB r <;> simp
  | case5 d r h => simp [clB, h]
  | case6 c d r h ih =>
    rw [clB, if_neg h, ih]
    simp only [Bool.false_eq_true, if_false]
    cases qtB (d :: r) <;> simp
theorem qt_le (r : List UInt8) : ∀ x, qtB r = some x → 1 ≤ x.2 ∧ x.2 ≤ r.length ∧ r[x.2 - 1]? = some 39 ∧ x.1 = unqB (r.take (x.2 - 1)) ∧ x.1.length ≤ r.length := by
  fun_induction qtB r with
  | case1 => intro x h; cases h
  | case2 => intro x h; cases h; exact ⟨by simp, by simp, rfl, rfl, by simp⟩
  | case3 c h => intro x hx; cases hx
  | case4 r ih =>
    intro x h
    obtain ⟨y, hy, rfl⟩ := Option.map_eq_some_iff.1 h
    obtain ⟨h1, h2, h3, h4, h5⟩ := ih y hy
    obtain ⟨k, hk⟩ : ∃ k, y.2 = k + 1 := ⟨y.2 - 1, by omega⟩
    simp only [hk] at h3 h4 ⊢
    refine ⟨by omega, by simp; omega, by simpa using h3, ?_, by simp; omega⟩
    show 39 :: y.1 = unqB ((39 :: 39 :: r).take (k + 1 + 2 - 1))
    rw [show k + 1 + 2 - 1 = k + 2 by omega, h4, List.take_succ_cons, List.take_succ_cons, unqB, if_pos ⟨rfl, rfl⟩]
    rfl
  | case5 d r h => intro x hx; cases hx; exact ⟨by simp, by simp, rfl, rfl, by simp⟩
  | case6 c d r h ih =>
    intro x hx
    obtain ⟨y, hy, rfl⟩ := Option.map_eq_some_iff.1 hx
    obtain ⟨h1, h2, h3, h4, h5⟩ := ih y hy
    obtain ⟨k, hk⟩ : ∃ k, y.2 = k + 1 := ⟨y.2 - 1, by omega⟩
    simp only [hk] at h3 h4 h2 ⊢
    refine ⟨by omega, by simp at h2 ⊢; omega, by simpa using h3, ?_, by simp at h5 ⊢; omega⟩
    show c :: y.1 = unqB ((c :: d :: r).take (k + 1 + 1 - 1))
    rw [h4]
    cases k with
    | zero => rfl
    | succ k =>
      show c :: unqB (d :: r.take k) = unqB (c :: d :: r.take k)
      rw [unqB, if_neg (fun e => h e.1)]
theorem qt_app {c : UInt8} (hc : c ≠ 39) (r : List UInt8) (m : List UInt8) : ∀ x, qtB r = some x → qtB (r ++ c :: m) = some x := by
  fun_induction qtB r with
  | case1 => intro x h; cases h
  | case2 =>
    intro x h; cases h
    show qtB (39 :: c :: m) = _
    rw [qtB, if_pos rfl, if_neg hc]
  | case3 d h => intro x hx; cases hx
  | case4 r ih =>
    intro x h
    obtain ⟨y, hy, rfl⟩ := Option.map_eq_some_iff.1 h
    show qtB (39 :: 39 :: (r ++ c :: m)) = _
    rw [qtB, if_pos rfl, if_pos rfl, ih y hy]; rfl
  | case5 d r h =>
    intro x hx; cases hx
    show qtB (39 :: d :: (r ++ c :: m)) = _
    rw [qtB, if_pos rfl, if_neg h]
  | case6 e d r h ih =>
    intro x hx
    obtain ⟨y, hy, rfl⟩ := Option.map_eq_some_iff.1 hx
    show qtB (e :: d :: (r ++ c :: m)) = _
    have := ih y hy
    rw [List.cons_append] at this
    rw [qtB, if_neg h, this]; rfl

/-! ### Marks -/
def marksL : List (List UInt8) := [[60, 62], [60, 61], [62, 61], [60], [62], [61], [44], [40], [41], [42]]
def mkT (l : List UInt8) : Option (List UInt8) := marksL.find? fun m => m.isPrefixOf l
theorem mkT_pre {l t : List UInt8} (h : mkT l = some t) : t.isPrefixOf l = true ∧ t ∈ marksL := by
  unfold mkT at h
  exact ⟨by simpa using List.find?_some h, List.mem_of_find?_eq_some h⟩

/-! ### Tokens -/
structure Tk where
  kind : Int
  txt : List UInt8
  num : Int
  at_ : Int
  deriving DecidableEq
def noTk : Tk := ⟨0, [], 0, 0⟩
def oneB : List UInt8 → Option (Tk × Nat)
  | [] => none
  | c :: r =>
    if letB c then some (⟨1, (c :: r).take (spanN innB (c :: r)), 0, 0⟩, spanN innB (c :: r))
    else if digB c || decide (c = 45) then (valB ((c :: r).take (1 + spanN digB r))).map fun v => (⟨2, [], v, 0⟩, 1 + spanN digB r)
    else if c = 39 then (qtB r).map fun x => (⟨3, x.1, 0, 0⟩, x.2 + 1)
    else (mkT (c :: r)).map fun t => (⟨4, t, 0, 0⟩, t.length)
theorem low_at {l : List UInt8} {p : UInt8 → Bool} {n : Nat} (h : (l.take n).all p = true) (hp : ∀ c, p c = true → c.toNat < 128) (h1 : 1 ≤ n) (h2 : n ≤ l.length) : ∃ d, l[n - 1]? = some d ∧ d.toNat < 128 := by
  have hlt : n - 1 < l.length := by omega
  refine ⟨l[n - 1], List.getElem?_eq_getElem hlt, hp _ ?_⟩
  rw [List.all_eq_true] at h
  exact h _ (List.mem_take_iff_getElem.2 ⟨n - 1, by omega, rfl⟩)
theorem one_is {c : UInt8} {r : List UInt8} {t : Tk} {n : Nat} (h : oneB (c :: r) = some (t, n)) : 1 ≤ n ∧ n ≤ (c :: r).length ∧ c.toNat < 128 ∧ (∃ d, (c :: r)[n - 1]? = some d ∧ d.toNat < 128) ∧ t.at_ = 0 ∧ blkB c = false := by
  simp only [oneB] at h
  split at h
  · rename_i hl
    obtain ⟨rfl, rfl⟩ := Prod.mk.inj (Option.some.inj h)
    have hi : innB c = true := by simp [innB, hl]
    have h1 : 1 ≤ spanN innB (c :: r) := by rw [span_yes hi]; omega
    exact ⟨h1, span_le _ _, letB_lo hl, low_at (span_all _ _) (fun _ => innB_lo) h1 (span_le _ _), rfl, by simp [letB] at hl; simp [blkB]; omega⟩
  split at h
  · rename_i hl hd
    obtain ⟨v, hv, he⟩ := Option.map_eq_some_iff.1 h
    obtain ⟨rfl, rfl⟩ := Prod.mk.inj he
    have hs := span_le digB r
    have hc : c.toNat < 128 ∧ blkB c = false := by
      rw [Bool.or_eq_true] at hd
      rcases hd with hd | hd
      · exact ⟨digB_lo hd, by simp [digB] at hd; simp [blkB]; omega⟩
      · obtain rfl : c = 45 := by simpa using hd
        exact ⟨by decide, by decide⟩
    refine ⟨by omega, by simp; omega, hc.1, ?_, rfl, hc.2⟩
    refine low_at (p := fun c => decide (c.toNat < 128)) ?_ (fun _ h => by simpa using h) (by omega) (by simp; omega)
    rw [Nat.add_comm, List.take_succ_cons, List.all_cons]
    have := span_all digB r
    rw [List.all_eq_true] at this
    rw [Bool.and_eq_true]
    refine ⟨by simpa using hc.1, List.all_eq_true.2 fun d hd => by simpa using digB_lo (this d hd)⟩
  split at h
  · rename_i hq
    obtain ⟨x, hx, he⟩ := Option.map_eq_some_iff.1 h
    obtain ⟨rfl, rfl⟩ := Prod.mk.inj he
    obtain ⟨h1, h2, h3, _⟩ := qt_le r x hx
    subst hq
    refine ⟨by omega, by simp; omega, by decide, ⟨39, ?_, by decide⟩, rfl, by decide⟩
    obtain ⟨k, hk⟩ : ∃ k, x.2 = k + 1 := ⟨x.2 - 1, by omega⟩
    rw [hk] at h3 ⊢
    simpa using h3
  · obtain ⟨m, hm, he⟩ := Option.map_eq_some_iff.1 h
    obtain ⟨rfl, rfl⟩ := Prod.mk.inj he
    obtain ⟨h1, h2⟩ := mkT_pre hm
    simp only [marksL, List.mem_cons, List.mem_nil_iff, or_false] at h2
    cases r with
    | nil =>
      rcases h2 with rfl | rfl | rfl | rfl | rfl | rfl | rfl | rfl | rfl | rfl <;> simp [List.isPrefixOf] at h1 <;> subst h1 <;> exact ⟨by decide, by simp, by decide, ⟨_, rfl, by decide⟩, rfl, by decide⟩
    | cons d r =>
      rcases h2 with rfl | rfl | rfl | rfl | rfl | rfl | rfl | rfl | rfl | rfl <;> simp [List.isPrefixOf] at h1
      all_goals first
        | (obtain ⟨rfl, rfl⟩ := h1; exact ⟨by decide, by simp, by decide, ⟨_, rfl, by decide⟩, rfl, by decide⟩)
        | (subst h1; exact ⟨by decide, by simp, by decide, ⟨_, rfl, by decide⟩, rfl, by decide⟩)

def putAt (t : Tk) (a : Nat) : Tk := ⟨t.kind, t.txt, t.num, a⟩
/-- ts, and then what is said -/
def preT (ts : List Tk) : Except Nat (List Tk) → Except Nat (List Tk)
  | .error e => .error e
  | .ok u => .ok (ts ++ u)
def tokN : Nat → Nat → List UInt8 → Except Nat (List Tk)
  | _, a, [] => .ok [⟨0, [], 0, a⟩]
  | 0, _, _ :: _ => .ok []
  | f + 1, a, c :: r => if blkB c then tokN f (a + 1) r else
    match oneB (c :: r) with
    | none => .error a
    | some (t, n) => preT [putAt t a] (tokN f (a + n) ((c :: r).drop n))
def tokB (a : Nat) (l : List UInt8) : Except Nat (List Tk) := tokN l.length a l
theorem tokN_any : ∀ (f g a : Nat) (l : List UInt8), l.length ≤ f → l.length ≤ g → tokN f a l = tokN g a l
  | 0, g, a, [], _, _ => by cases g <;> rfl
  | f + 1, g, a, [], _, _ => by cases g <;> rfl
  | 0, _, _, _ :: _, h, _ => by simp at h
  | _ + 1, 0, _, _ :: _, _, h => by simp at h
  | f + 1, g + 1, a, c :: r, hf, hg => by
    simp only [List.length_cons] at hf hg
    unfold tokN
    rw [tokN_any f g (a + 1) r (by omega) (by omega)]
    split
    · rfl
    · split
      · rfl
      · rename_i t n h
        have := one_is h
        have hd : ((c :: r).drop n).length ≤ r.length := by rw [List.length_drop, List.length_cons]; omega
        rw [tokN_any f g (a + n) _ (by omega) (by omega)]
theorem tok_nil (a : Nat) : tokB a [] = .ok [⟨0, [], 0, a⟩] := rfl
theorem tok_blank {c : UInt8} {r : List UInt8} (a : Nat) (h : blkB c = true) : tokB a (c :: r) = tokB (a + 1) r := by
  unfold tokB
  rw [List.length_cons, tokN, if_pos h]
theorem tok_bad {c : UInt8} {r : List UInt8} (a : Nat) (h : blkB c = false) (h1 : oneB (c :: r) = none) : tokB a (c :: r) = .error a := by
  unfold tokB
  rw [List.length_cons, tokN, if_neg (by simp [h]), h1]
theorem tok_one {c : UInt8} {r : List UInt8} {t : Tk} {n : Nat} (a : Nat) (h1 : oneB (c :: r) = some (t, n)) : tokB a (c :: r) = preT [putAt t a] (tokB (a + n) ((c :: r).drop n)) := by
  have hi := one_is h1
  unfold tokB
  rw [List.length_cons, tokN, if_neg (by simp [hi.2.2.2.2.2]), h1]
  have hd : ((c :: r).drop n).length ≤ r.length := by rw [List.length_drop, List.length_cons]; omega
  show preT [putAt t a] (tokN r.length (a + n) ((c :: r).drop n)) = _
  rw [tokN_any r.length _ (a + n) _ hd (Nat.le_refl _)]
theorem preT_app (a b : List Tk) (x : Except Nat (List Tk)) : preT a (preT b x) = preT (a ++ b) x := by
  cases x <;> simp [preT]
theorem preT_nil (x : Except Nat (List Tk)) : preT [] x = x := by cases x <;> rfl
/-- all of a text: tokens, a number, an error -/
def wsB (l : List UInt8) : List Tk × Nat × Nat :=
  if 400 < l.length then ([], 0, 3) else match tokB 0 l with
    | .error p => ([], p, 2)
    | .ok ts => (ts, l.length, 0)
theorem all_long {l : List UInt8} (h : 400 < l.length) : wsB l = ([], 0, 3) := by unfold wsB; rw [if_pos h]
theorem all_bad {l : List UInt8} {p : Nat} (h : ¬ 400 < l.length) (ht : tokB 0 l = .error p) : wsB l = ([], p, 2) := by unfold wsB; rw [if_neg h, ht]
theorem all_ok {l : List UInt8} {ts : List Tk} (h : ¬ 400 < l.length) (ht : tokB 0 l = .ok ts) : wsB l = (ts, l.length, 0) := by unfold wsB; rw [if_neg h, ht]
end Go.Proofs.YtpapgfjainllpaaDoor


namespace Go.Proofs.YtpapgfjainllpaaDoor
set_option linter.unusedVariables false
set_option linter.unusedSimpArgs false
set_option maxRecDepth 100000
open Go.RowKit

theorem var_fr {S : Nat → Prop} {w w' : World} {n : String} {cs : Array Value} (hf : Fr S w w') (hn : ∀ g, Tryd.prog.globalNamed n = some g → ¬ S g) (h : w.var? Tryd.prog n = some cs) : w'.var? Tryd.prog n = some cs := by
  unfold World.var? at h ⊢
  cases hg : Tryd.prog.globalNamed n with
  | none => simp [hg] at h
  | some g =>
    simp only [hg, Option.bind_some] at h ⊢
    have hlt : g < w.heap.size := by
      rcases Nat.lt_or_ge g w.heap.size with h' | h'
      · exact h'
      · simp [Array.getElem?_eq_none h'] at h
    rw [hf.block g hlt (hn g hg)]
    exact h
/-- the variables lie as their texts lay them -/
structure Lw (w : World) : Prop where
  marks : ∀ j (h : j < marksL.length), w.cell? ⟨0, j, none⟩ = some (.string ⟨marksL[j].toArray⟩)
  most : ∃ m, w.cell? ⟨2, 0, none⟩ = some (.int .i64 m)
  pow : Lib.TabIs Tryd.prog w "internal/strconv.uint64pow10" .u64 Lib.pow10Tab
  esyn : ∃ tp p, w.var? Tryd.prog "strconv.ErrSyntax" = some #[.iface tp p]
  eran : ∃ tp p, w.var? Tryd.prog "strconv.ErrRange" = some #[.iface tp p]
theorem Lw.non {w w' : World} (h : Lw w) (hf : Fr Non w w') : Lw w' := by
  obtain ⟨h1, ⟨m, h2⟩, h3, ⟨t4, p4, h4⟩, t5, p5, h5⟩ := h
  have hc : ∀ (a : Addr) (v : Value), w.cell? a = some v → w'.cell? a = some v := fun a v hv => (hf.cell (World.block_lt_of_cell? w a hv) (fun e => e)).trans hv
  exact ⟨fun j hj => hc _ _ (h1 j hj), ⟨m, hc _ _ h2⟩, var_fr hf (fun _ _ e => e) h3, ⟨t4, p4, var_fr hf (fun _ _ e => e) h4⟩, t5, p5, var_fr hf (fun _ _ e => e) h5⟩
theorem Lw.alloc {w : World} (h : Lw w) (o : Obj) : Lw (w.alloc o) := h.non ((Fr.refl _ _).alloc o)
theorem Lw.drew {w : World} (h : Lw w) : Lw w.drew := h.non (Fr.refl _ _).drew

/-! ### The library -/
theorem extra_rep : Builder.Extra Tryd.prog lay_rep_ren := {
  sizeBuilder := by kernel_rfl
  liesBuilder := by kernel_rfl
  t5 := lay_rep.t5
  a5 := lay_rep.a5
  z5 := lay_rep.z5
  v5 := lay_rep.v5
  infoByte := by kernel_rfl
  cellsByte := by kernel_rfl
  sizeByte := by kernel_rfl
  neB5 := by decide }
theorem lsize (l : List UInt8) : ByteArray.size ⟨l.toArray⟩ = l.length := by simp [ByteArray.size]
theorem srep_any (s old new : List UInt8) (w : World) (hw : Lw w) (hs : s.length ≤ 1000000) (h1 : 1 ≤ old.length) (hn : new.length ≤ 4) :
    Calls Tryd.prog 18 #[.string ⟨s.toArray⟩, .string ⟨old.toArray⟩, .string ⟨new.toArray⟩] w fun e w' => e = .returned (.string ⟨(Lib.replaceAll s old new).toArray⟩) ∧ Fr Non w w' := by
  obtain ⟨m, hm⟩ := hw.most
  have hc : Lib.countB ⟨s.toArray⟩ ⟨old.toArray⟩ ≤ s.length + 1 := by
    have : Lib.countB ⟨s.toArray⟩ ⟨old.toArray⟩ = Lib.count s old := by simp [Lib.countB]
    rw [this]; exact count_len s old
  have hmul : Lib.countB ⟨s.toArray⟩ ⟨old.toArray⟩ * new.length ≤ (s.length + 1) * 4 := Nat.mul_le_mul hc hn
  have c := Go.Proofs.Any.strings_ReplaceAll lay_rep extra_rep ⟨s.toArray⟩ ⟨old.toArray⟩ ⟨new.toArray⟩ m w (by rw [lsize]; omega) hm (by rw [lsize]; exact h1) (by rw [lsize, lsize]; omega)
  exact c.mono fun e w' ⟨h1, h2⟩ => ⟨by simpa using h1, Fr.of_below h2⟩
theorem sfmt_any (n : Int) (w : World) (hw : Lw w) (hn : I64b n) :
    Calls Tryd.prog 19 #[.int .i64 n, .int .i64 10] w fun e w' => e = .returned (.string ⟨(Lib.itoa n).toArray⟩) ∧ Fr Non w w' :=
  (Go.Proofs.Any.strconv_FormatInt_10 lay_fmt n hn.1 hn.2 w hw.pow).mono fun e w' ⟨h1, k, os, h2⟩ => ⟨h1, by subst h2; exact Fr.of_below (Lib.below_grow _ w (Nat.le_refl _) k os)⟩
/-- how a parse ends -/
def PrsEnd (l : List UInt8) (e : Ending) : Prop := (∃ v, Lib.parseIntB 64 l = .ok v ∧ e = .returned (.tuple #[.int .i64 v, .nilIface])) ∨ ((∀ v, Lib.parseIntB 64 l ≠ .ok v) ∧ ∃ x t p, e = .returned (.tuple #[.int .i64 x, .iface t p]))
theorem sprs_any (s : List UInt8) (w : World) (hw : Lw w) (hs : s.length ≤ 1000000) :
    Calls Tryd.prog 36 #[.string ⟨s.toArray⟩, .int .i64 10, .int .i64 64] w fun e w' => PrsEnd s e ∧ Fr Non w w' := by
  obtain ⟨t4, p4, h4⟩ := hw.esyn
  obtain ⟨t5, p5, h5⟩ := hw.eran
  rcases h : Lib.parseIntB 64 s with v | _ | _
  · refine (Go.Proofs.Any.strconv_ParseInt_10_at64_ok lay_prs ⟨s.toArray⟩ (by rw [lsize]; omega) v (by simpa using h) w).mono fun e w' ⟨h1, h2⟩ => ⟨.inl ⟨v, h, h1⟩, ?_⟩
    rcases h2 with rfl | ⟨t, rfl⟩
    · exact Fr.refl _ _
    · exact Fr.of_below (Go.Joins.below_bytesWorld _ w _ t (Nat.le_refl _))
  · refine (Go.Proofs.Any.strconv_ParseInt_10_at64_syntax_var lay_prs ⟨s.toArray⟩ (by rw [lsize]; omega) (by simpa using h) t4 p4 w h4).mono fun e w' ⟨N, h1, _, _, h2⟩ => ⟨.inr ⟨fun v hv => (by rw [h] at hv; cases hv), _, _, _, h1⟩, Fr.of_below h2⟩
  · refine (Go.Proofs.Any.strconv_ParseInt_10_at64_range_var lay_prs ⟨s.toArray⟩ (by rw [lsize]; omega) (by simpa using h) t5 p5 w h5).mono fun e w' ⟨N, h1, _, _, h2⟩ => ⟨.inr ⟨fun v hv => (by rw [h] at hv; cases hv), _, _, _, h1⟩, Fr.of_below h2⟩
theorem shas_any (s p : List UInt8) (w : World) : Calls Tryd.prog 38 #[.string ⟨s.toArray⟩, .string ⟨p.toArray⟩] w fun e w' => e = .returned (.bool (p.isPrefixOf s)) ∧ w = w' :=
  (Go.Proofs.Any.strings_HasPrefix lay_has ⟨s.toArray⟩ ⟨p.toArray⟩ w).mono fun e w' ⟨h1, h2⟩ => ⟨by simpa [Lib.hasPrefix] using h1, h2.symm⟩
theorem strm_any (s p : List UInt8) (w : World) : Calls Tryd.prog 35 #[.string ⟨s.toArray⟩, .string ⟨p.toArray⟩] w fun e w' => e = .returned (.string ⟨(Lib.trimPrefix s p).toArray⟩) ∧ w = w' :=
  (Go.Proofs.Any.strings_TrimPrefix lay_trm ⟨s.toArray⟩ ⟨p.toArray⟩ w).mono fun e w' ⟨h1, h2⟩ => ⟨by simpa using h1, h2.symm⟩
end Go.Proofs.YtpapgfjainllpaaDoor


namespace Go.Proofs.YtpapgfjainllpaaDoor
set_option linter.unusedVariables false
set_option linter.unusedSimpArgs false
set_option maxRecDepth 100000
open Go.RowKit

/-- a slice of slices of bytes that the call owns, row and all -/
def Owns (w : World) (B : Nat) (v : Value) (ls : List (List UInt8)) : Prop :=
  ∃ vs : List Value, w.ownsRow B 47 1 v vs.length vs ∧ vs.length = ls.length ∧ ∀ (i : Nat) (u : Value) (l : List UInt8), vs[i]? = some u → ls[i]? = some l → Own w B u l

theorem Own.kind {w : World} {B : Nat} {u : Value} {l : List UInt8} (h : Own w B u l) : ∀ k, u.ownBlock = some k → ∃ cur, w.heap[k]? = some (.cells cur 5 (0, 0)) := by
  intro k hk
  rcases h.2 with ⟨rfl, _⟩ | ⟨g, cap, cur, rfl, _, hg, _⟩
  · cases hk
  · obtain rfl : g = k := by simpa [Value.ownBlock] using hk
    exact ⟨cur, hg⟩
theorem row_kind {w : World} {B : Nat} {E : TypeId} {n : Nat} {v : Value} {xs : List Value} (h : w.ownsRow B E 1 v n xs) : ∀ k, v.ownBlock = some k → ∃ cur, w.heap[k]? = some (.cells cur E (0, 0)) := by
  intro k hk
  rcases h.2 with ⟨rfl, _⟩ | ⟨g, cap, cur, rfl, _, hg, _⟩
  · cases hk
  · obtain rfl : g = k := by simpa [Value.ownBlock] using hk
    exact ⟨cur, hg⟩
theorem row_keep {w w' : World} {B : Nat} {E : TypeId} {n : Nat} {v : Value} {xs : List Value} (h : w.ownsRow B E 1 v n xs) (hk : ∀ k, v.ownBlock = some k → w'.heap[k]? = w.heap[k]?) : w'.ownsRow B E 1 v n xs := by
  refine ⟨h.1, ?_⟩
  rcases h.2 with h2 | ⟨g, cap, cur, hv, hb, hg, r⟩
  · exact .inl h2
  · exact .inr ⟨g, cap, cur, hv, hb, by rw [hk g (by rw [hv]; rfl)]; exact hg, r⟩
theorem row_lt {w : World} {B : Nat} {E : TypeId} {n : Nat} {v : Value} {xs : List Value} (h : w.ownsRow B E 1 v n xs) : ∀ k, v.ownBlock = some k → B ≤ k ∧ k < w.heap.size := World.ownsRow.lt h
theorem row_mono {w : World} {B B' : Nat} {E : TypeId} {n : Nat} {v : Value} {xs : List Value} (h : w.ownsRow B E 1 v n xs) (hB : B' ≤ B) : w.ownsRow B' E 1 v n xs := by
  refine ⟨h.1, ?_⟩
  rcases h.2 with h2 | ⟨g, cap, cur, hv, hb, r⟩
  · exact .inl h2
  · exact .inr ⟨g, cap, cur, hv, by omega, r⟩

theorem Owns.lt {w : World} {B : Nat} {v : Value} {ls : List (List UInt8)} (h : Owns w B v ls) : ∀ k, v.ownBlock = some k → B ≤ k ∧ k < w.heap.size := by
  obtain ⟨vs, h1, _⟩ := h; exact row_lt h1
/-- it stays where the blocks that turn are no rows of slices and no bytes -/
theorem Owns.keep {w w' : World} {B : Nat} {v : Value} {ls : List (List UInt8)} (h : Owns w B v ls)
    (hk : ∀ k cur, (w.heap[k]? = some (.cells cur 47 (0, 0)) ∨ w.heap[k]? = some (.cells cur 5 (0, 0))) → B ≤ k → w'.heap[k]? = w.heap[k]?) : Owns w' B v ls := by
  obtain ⟨vs, h1, h2, h3⟩ := h
  refine ⟨vs, row_keep h1 fun k e => ?_, h2, fun i u l hu hl => (h3 i u l hu hl).keep fun k e => ?_⟩
  · obtain ⟨cur, hc⟩ := row_kind h1 k e
    exact hk k cur (.inl hc) (row_lt h1 k e).1
  · obtain ⟨cur, hc⟩ := (h3 i u l hu hl).kind k e
    exact hk k cur (.inr hc) ((h3 i u l hu hl).lt k e).1
theorem Owns.fr {S : Nat → Prop} {w w' : World} {B : Nat} {v : Value} {ls : List (List UInt8)} (h : Owns w B v ls) (hf : Fr S w w')
    (hS : ∀ k cur, S k → w.heap[k]? ≠ some (.cells cur 47 (0, 0)) ∧ w.heap[k]? ≠ some (.cells cur 5 (0, 0))) : Owns w' B v ls :=
  h.keep fun k cur hc _ => hf.block k (by rcases hc with e | e <;> exact (Array.getElem?_eq_some_iff.1 e).1) fun e => by
    rcases hc with h1 | h1
    · exact (hS k cur e).1 h1
    · exact (hS k cur e).2 h1
theorem Owns.non {w w' : World} {B : Nat} {v : Value} {ls : List (List UInt8)} (h : Owns w B v ls) (hf : Fr Non w w') : Owns w' B v ls := h.fr hf fun k cur e => e.elim
theorem Owns.mono {w : World} {B B' : Nat} {v : Value} {ls : List (List UInt8)} (h : Owns w B v ls) (hB : B' ≤ B) : Owns w B' v ls := by
  obtain ⟨vs, h1, h2, h3⟩ := h
  exact ⟨vs, row_mono h1 hB, h2, fun i u l hu hl => (h3 i u l hu hl).mono hB⟩
theorem Owns.bss {w : World} {B : Nat} {v : Value} {ls : List (List UInt8)} (h : Owns w B v ls) : Bss w v ls := by
  obtain ⟨vs, h1, h2, h3⟩ := h
  rcases h1.2 with ⟨rfl, h0⟩ | ⟨g, cap, cur, rfl, _, _, hle, _, _, _⟩
  · have hl : ls = [] := List.eq_nil_of_length_eq_zero (by omega)
    subst hl
    exact ⟨none, 0, rfl, Nat.le_refl _, fun _ => rfl, fun _ h => by cases h⟩
  · refine ⟨_, cap, by rw [h2], by omega, (fun h => by cases h), fun a ha j hj => ?_⟩
    cases ha
    have hj' : j < vs.length := by omega
    exact ⟨vs[j], World.ownsRow.cells h1 (g := g) rfl j _ (by simp [hj']), (h3 j vs[j] ls[j] (by simp [hj']) (by simp [hj])).bs⟩
theorem Owns.shape {w : World} {B : Nat} {v : Value} {ls : List (List UInt8)} (h : Owns w B v ls) : ∃ A c, v = .slice A ls.length c := by
  obtain ⟨A, c, rfl, _⟩ := h.bss; exact ⟨A, c, rfl⟩
/-! ### Whole numbers in a row of the call's own -/
def iv (n : Int) : Value := .int .i64 n
def OwnI (w : World) (B : Nat) (v : Value) (l : List Int) : Prop := w.ownsRow B 3 1 v (l.map iv).length (l.map iv)
theorem OwnI.non {w w' : World} {B : Nat} {v : Value} {l : List Int} (h : OwnI w B v l) (hf : Fr Non w w') : OwnI w' B v l := row_keep h fun k hk => hf.block k (row_lt h k hk).2 fun e => e
theorem OwnI.fr {S : Nat → Prop} {w w' : World} {B : Nat} {v : Value} {l : List Int} (h : OwnI w B v l) (hf : Fr S w w') (hn : ∀ k, v.ownBlock = some k → ¬ S k) : OwnI w' B v l := row_keep h fun k hk => hf.block k (row_lt h k hk).2 (hn k hk)
theorem OwnI.cell {w : World} {B : Nat} {v : Value} {l : List Int} (h : OwnI w B v l) {g n c : Nat} (hv : v = .slice (some ⟨g, 0, none⟩) n c) (j : Nat) (hj : j < l.length) : w.cell? ⟨g, j, none⟩ = some (.int .i64 l[j]) := by
  subst hv
  have := World.ownsRow.cells h (g := g) rfl j (iv l[j]) (by simp [hj])
  rwa [Addr.add_lit, Nat.zero_add] at this
end Go.Proofs.YtpapgfjainllpaaDoor


namespace Go.Proofs.YtpapgfjainllpaaDoor
set_option linter.unusedVariables false
set_option linter.unusedSimpArgs false
set_option maxRecDepth 100000
open Go.RowKit

/-- the slice v reads as the list l, each element's cell being f of it -/
def Vs {α : Type} (f : α → Value) (w : World) (v : Value) (l : List α) : Prop :=
  ∃ A c, v = .slice A l.length c ∧ l.length ≤ c ∧ (A = none → c = 0) ∧ ∀ a, A = some a → ∀ j (h : j < l.length), w.cell? (a.add j) = some (f l[j])
/-- a row of the call's own, from block B on, of elements of type E -/
def Ow {α : Type} (f : α → Value) (E : TypeId) (w : World) (B : Nat) (v : Value) (l : List α) : Prop := w.ownsRow B E 1 v l.length (l.map f)

section
variable {α : Type} {f : α → Value}

theorem Vs.nil_ (w : World) : Vs f w (.slice none 0 0) [] := ⟨none, 0, rfl, Nat.le_refl _, fun _ => rfl, fun _ h => by cases h⟩
theorem Vs.keep {w w' : World} {v : Value} {l : List α} (h : Vs f w v l) (hk : ∀ k, v.ownBlock = some k → k < w.heap.size → w'.heap[k]? = w.heap[k]?) : Vs f w' v l := by
  obtain ⟨A, c, rfl, h1, h2, h3⟩ := h
  refine ⟨A, c, rfl, h1, h2, fun a ha j hj => ?_⟩
  have := h3 a ha j hj
  subst ha
  have hb := World.block_lt_of_cell? w _ this
  rw [add_block] at hb
  rw [← this]
  exact World.cell?_of_block (by rw [add_block]; exact hk _ rfl hb)
theorem Vs.fr {S : Nat → Prop} {w w' : World} {v : Value} {l : List α} (h : Vs f w v l) (hf : Fr S w w') (hn : ∀ k, v.ownBlock = some k → ¬ S k) : Vs f w' v l :=
  h.keep fun k hk hlt => hf.block k hlt (hn k hk)
theorem Vs.non {w w' : World} {v : Value} {l : List α} (h : Vs f w v l) (hf : Fr Non w w') : Vs f w' v l := h.fr hf fun _ _ e => e
theorem Vs.drew {w : World} {v : Value} {l : List α} (h : Vs f w v l) : Vs f w.drew v l := h
theorem Vs.drewN {w : World} {v : Value} {l : List α} (h : Vs f w v l) (n : Nat) : Vs f (w.drewN n) v l := h
theorem Vs.shape {w : World} {v : Value} {l : List α} (h : Vs f w v l) : ∃ A c, v = .slice A l.length c := by
  obtain ⟨A, c, rfl, _⟩ := h; exact ⟨A, c, rfl⟩
theorem Vs.pre {w : World} {A : Option Addr} {n c k : Nat} {l : List α} (h : Vs f w (.slice A n c) l) (hk : k ≤ n) : Vs f w (.slice A k c) (l.take k) := by
  obtain ⟨A0, c0, he, h1, h2, h3⟩ := h
  simp only [Value.slice.injEq] at he
  obtain ⟨rfl, rfl, rfl⟩ := he
  have hl : (l.take k).length = k := by rw [List.length_take]; omega
  refine ⟨A, c, by rw [hl], by rw [hl]; omega, h2, fun a ha j hj => ?_⟩
  rw [h3 a ha j (by rw [hl] at hj; omega)]
  simp

variable {E : TypeId}
theorem Ow.lt {w : World} {B : Nat} {v : Value} {l : List α} (h : Ow f E w B v l) : ∀ k, v.ownBlock = some k → B ≤ k ∧ k < w.heap.size := World.ownsRow.lt h
theorem Ow.vs {w : World} {B : Nat} {v : Value} {l : List α} (h : Ow f E w B v l) : Vs f w v l := by
  rcases h.2 with ⟨rfl, h0⟩ | ⟨g, cap, cur, rfl, _, _, hle, _, _, _⟩
  · have hl : l = [] := List.eq_nil_of_length_eq_zero h0
    subst hl; exact Vs.nil_ w
  · refine ⟨_, cap, rfl, hle, (fun h => by cases h), fun a ha j hj => ?_⟩
    cases ha
    exact World.ownsRow.cells h (g := g) rfl j _ (by simp [hj])
theorem Ow.shape {w : World} {B : Nat} {v : Value} {l : List α} (h : Ow f E w B v l) : ∃ A c, v = .slice A l.length c := h.vs.shape
theorem Ow.keep {w w' : World} {B : Nat} {v : Value} {l : List α} (h : Ow f E w B v l) (hk : ∀ k, v.ownBlock = some k → w'.heap[k]? = w.heap[k]?) : Ow f E w' B v l := row_keep h hk
theorem Ow.fr {S : Nat → Prop} {w w' : World} {B : Nat} {v : Value} {l : List α} (h : Ow f E w B v l) (hf : Fr S w w') (hn : ∀ k, v.ownBlock = some k → ¬ S k) : Ow f E w' B v l :=
  h.keep fun k hk => hf.block k (h.lt k hk).2 (hn k hk)
theorem Ow.non {w w' : World} {B : Nat} {v : Value} {l : List α} (h : Ow f E w B v l) (hf : Fr Non w w') : Ow f E w' B v l := h.fr hf fun _ _ e => e
theorem Ow.alloc {w : World} {B : Nat} {v : Value} {l : List α} (h : Ow f E w B v l) (o : Obj) : Ow f E (w.alloc o) B v l := h.non ((Fr.refl _ _).alloc o)
theorem Ow.drew {w : World} {B : Nat} {v : Value} {l : List α} (h : Ow f E w B v l) : Ow f E w.drew B v l := h
theorem Ow.drewN {w : World} {B : Nat} {v : Value} {l : List α} (h : Ow f E w B v l) (n : Nat) : Ow f E (w.drewN n) B v l := h
theorem Ow.mono {w : World} {B B' : Nat} {v : Value} {l : List α} (h : Ow f E w B v l) (hB : B' ≤ B) : Ow f E w B' v l := row_mono h hB
theorem Ow.kind {w : World} {B : Nat} {v : Value} {l : List α} (h : Ow f E w B v l) : ∀ k, v.ownBlock = some k → ∃ cur, w.heap[k]? = some (.cells cur E (0, 0)) := row_kind h
/-- where it has an element, it stands at a row's head -/
theorem Ow.row {w : World} {B : Nat} {v : Value} {l : List α} (h : Ow f E w B v l) (hn : 0 < l.length) : ∃ g cap, v = .slice (some ⟨g, 0, none⟩) l.length cap ∧ B ≤ g ∧ g < w.heap.size ∧ l.length ≤ cap ∧ cap ≤ maxLen := by
  rcases h.2 with ⟨rfl, h0⟩ | ⟨g, cap, cur, rfl, hb, hg, hle, hm, _⟩
  · omega
  · exact ⟨g, cap, rfl, hb, (Array.getElem?_eq_some_iff.1 hg).1, hle, hm⟩
theorem Ow.cell {w : World} {B g n cap : Nat} {l : List α} (h : Ow f E w B (.slice (some ⟨g, 0, none⟩) n cap) l) (hn : n = l.length) (j : Nat) (x : α) (hb : l[j]? = some x) : w.cell? ⟨g, j, none⟩ = some (f x) := by
  subst hn
  have hj : j < l.length := (List.getElem?_eq_some_iff.1 hb).1
  rw [World.ownsRow.cellAt h j (by omega), List.getElem?_map, hb]; rfl
theorem Ow.frozen {w : World} {B g n cap : Nat} {l : List α} (h : Ow f E w B (.slice (some ⟨g, 0, none⟩) n cap) l) (hn : n = l.length) (j : Nat) : w.frozen? ⟨g, j, none⟩ = false := by
  subst hn; exact World.ownsRow.frozenAt h j
/-! ### Steps -/
variable {T : TypeId} {z : Value} {by_ : Nat}
/-! ### Pieces -/
end

/-! ### Truths, whole numbers, bytes -/
theorem Bs.vs {w : World} {v : Value} {l : List UInt8} (h : Bs w v l) : Vs bv w v l := h
theorem Vs.bs {w : World} {v : Value} {l : List UInt8} (h : Vs bv w v l) : Bs w v l := h
theorem Ow.own {w : World} {B : Nat} {v : Value} {l : List UInt8} (h : Ow bv 5 w B v l) : Own w B v l := h

end Go.Proofs.YtpapgfjainllpaaDoor


namespace Go.Proofs.YtpapgfjainllpaaDoor
set_option linter.unusedVariables false
set_option linter.unusedSimpArgs false
set_option maxRecDepth 100000
open Go.RowKit

/-- in block k lies an iterator over the text l, at place p -/
def ItU (w : World) (k : Nat) (l : List UInt8) (p : Nat) : Prop := w.heap[k]? = some (.stringIter ⟨l.toArray⟩ p)
theorem sizeU (l : List UInt8) : ByteArray.size ⟨l.toArray⟩ = l.length := by simp [ByteArray.size]
theorem ItU.new (w : World) (l : List UInt8) : ItU (w.iter ⟨l.toArray⟩ 0) w.heap.size l 0 := World.iter_heap w _ 0
theorem ItU.pos {w : World} {k p : Nat} {l : List UInt8} (h : ItU w k l p) : w.iterPos k = p := by
  unfold ItU at h; simp [World.iterPos, h]
theorem ItU.lt {w : World} {k p : Nat} {l : List UInt8} (h : ItU w k l p) : k < w.heap.size := (Array.getElem?_eq_some_iff.1 h).1
theorem ItU.fr {S : Nat → Prop} {w w' : World} {k p : Nat} {l : List UInt8} (h : ItU w k l p) (hf : Fr S w w') (hn : ¬ S k) : ItU w' k l p := (hf.block k h.lt hn).trans h
theorem fr_iterAt (w : World) (k : Nat) (s : ByteArray) (p : Nat) : Fr (One k) w (w.iterAt k s p) :=
  ⟨rfl, rfl, rfl, by rw [Lib.iterAt_size]; exact Nat.le_refl _, fun j _ hj => Lib.iterAt_other w k j s p hj⟩
/-- a step of the range -/
theorem nextU (wr : World) (k p : Nat) (l : List UInt8) (h : ItU wr k l p) (hp : p < l.length) :
    ∃ W, (∀ ty, (Instr.next (.pointer (some ⟨k, 0, none⟩)) true ty).run Tryd.prog wr = .ok (.tuple #[.bool true, .int .i64 p, .int .i32 ((dcU (l.drop p)).1 : Int)]) W) ∧
      ItU W k l (p + (dcU (l.drop p)).2) ∧ Fr (One k) wr W := by
  refine ⟨wr.iterAt k ⟨l.toArray⟩ (p + (dcU (l.drop p)).2), fun ty => ?_, Lib.iterAt_heap wr k _ p _ h, fr_iterAt _ _ _ _⟩
  rw [← dcU_at]
  exact Lib.run_next_any_at wr k _ p ty h (by rw [sizeU]; exact hp)
theorem nextU_end (wr : World) (k p : Nat) (l : List UInt8) (h : ItU wr k l p) (hp : ¬ p < l.length) (ty : TypeId) :
    (Instr.next (.pointer (some ⟨k, 0, none⟩)) true ty).run Tryd.prog wr = .ok (.tuple #[.bool false]) wr :=
  Lib.run_next_end_at wr k _ p ty h (by rw [sizeU]; exact hp)
end Go.Proofs.YtpapgfjainllpaaDoor


namespace Go.Proofs.YtpapgfjainllpaaDoor
set_option linter.unusedVariables false
set_option linter.unusedSimpArgs false
set_option maxRecDepth 100000
open Go.RowKit

theorem wletter_any (r : Nat) (w : World) : Calls Tryd.prog 20 #[.int .i32 r] w fun e w' => e = .returned (.bool (letR r)) ∧ w = w' := by
  go_enter Tryd.func20, Tryd.ntmps20
  go_wp2
  all_goals
    go_ret
    refine ⟨?_, rfl⟩
    unfold letR
    refine congrArg (fun b => Ending.returned (Value.bool b)) ?_
    rw [Bool.eq_iff_iff]
    simp at *
    try omega
theorem wdigit_any (r : Nat) (w : World) : Calls Tryd.prog 22 #[.int .i32 r] w fun e w' => e = .returned (.bool (digR r)) ∧ w = w' := by
  go_enter Tryd.func22, Tryd.ntmps22
  go_wp2
  all_goals
    go_ret
    refine ⟨?_, rfl⟩
    unfold digR
    refine congrArg (fun b => Ending.returned (Value.bool b)) ?_
    rw [Bool.eq_iff_iff]
    simp at *
    try omega
theorem wblank_any (r : Nat) (w : World) : Calls Tryd.prog 15 #[.int .i32 r] w fun e w' => e = .returned (.bool (blkR r)) ∧ w = w' := by
  go_enter Tryd.func15, Tryd.ntmps15
  go_wp2
  all_goals
    go_ret
    refine ⟨?_, rfl⟩
    unfold blkR
    refine congrArg (fun b => Ending.returned (Value.bool b)) ?_
    rw [Bool.eq_iff_iff]
    simp at *
    try omega
theorem winner_any (r : Nat) (w : World) : Calls Tryd.prog 34 #[.int .i32 r] w fun e w' => e = .returned (.bool (innR r)) ∧ w = w' := by
  have HL := Lib.hid (fun V => wletter_any r V)
  have HD := Lib.hid (fun V => wdigit_any r V)
  go_enter Tryd.func34, Tryd.ntmps34
  go_wp2_with (first
    | (go_at_call 20; refine (HL.out _).mono ?_; rintro e w1 ⟨rfl, rfl⟩)
    | (go_at_call 22; refine (HD.out _).mono ?_; rintro e w1 ⟨rfl, rfl⟩))
  all_goals
    go_ret
    refine ⟨?_, rfl⟩
    unfold innR
    refine congrArg (fun b => Ending.returned (Value.bool b)) ?_
    rw [Bool.eq_iff_iff]
    simp [*]
    try omega

/-! ### How far -/
def spR (q : Nat → Bool) (p : UInt8 → Bool) : Prop := (∀ c r, q (dcU (c :: r)).1 = p c) ∧ ∀ c, p c = true → c.toNat < 128
theorem drop_is {l : List UInt8} {k : Nat} (h : k < l.length) : ∃ c r, l.drop k = c :: r ∧ l[k]? = some c ∧ r = l.drop (k + 1) :=
  ⟨l[k], l.drop (k + 1), (List.drop_eq_getElem_cons h), by simp [h], rfl⟩
theorem sp_more {q : Nat → Bool} {p : UInt8 → Bool} (h : spR q p) {l : List UInt8} {k : Nat} (hk : k < l.length) (hs : spanN p l = k + spanN p (l.drop k)) (hq : q (dcU (l.drop k)).1 = true) :
    spanN p l = k + (dcU (l.drop k)).2 + spanN p (l.drop (k + (dcU (l.drop k)).2)) ∧ (dcU (l.drop k)).2 = 1 := by
  obtain ⟨c, r, e, _, hr⟩ := drop_is hk
  rw [e] at hq hs ⊢
  have hp : p c = true := by rw [← h.1 c r]; exact hq
  rw [dcU_low r (h.2 c hp), ← hr]
  rw [span_yes hp] at hs
  exact ⟨by simp only; omega, rfl⟩
theorem sp_stop {q : Nat → Bool} {p : UInt8 → Bool} (h : spR q p) {l : List UInt8} {k : Nat} (hk : k < l.length) (hs : spanN p l = k + spanN p (l.drop k)) (hq : q (dcU (l.drop k)).1 = false) : spanN p l = k := by
  obtain ⟨c, r, e, _, hr⟩ := drop_is hk
  rw [e] at hq hs
  have hp : p c = false := by rw [← h.1 c r]; exact hq
  rw [span_no hp] at hs
  omega
theorem sp_end {p : UInt8 → Bool} {l : List UInt8} {k : Nat} (hk : ¬ k < l.length) (hk2 : k ≤ l.length) (hs : spanN p l = k + spanN p (l.drop k)) : spanN p l = l.length := by
  rw [List.drop_eq_nil_of_le (by omega)] at hs
  simp [spanN] at hs
  omega
theorem sp_inn : spR innR innB := ⟨inn_rune, fun _ => innB_lo⟩
theorem sp_dig : spR digR digB := ⟨dig_rune, fun _ => digB_lo⟩

set_option maxHeartbeats 1000000 in
theorem while_inn (l : List UInt8) (w : World) (hl : l.length ≤ 1000000000) : Calls Tryd.prog 33 #[.func (.func 34) #[] #[], .string ⟨l.toArray⟩] w fun e w' => e = .returned (.int .i64 (spanN innB l : Nat)) ∧ Fr Non w w' := by
  go_enter Tryd.func33, Tryd.ntmps33
  go_wp2
  go_loopw [] (fun wr => ∃ k, k ≤ l.length ∧ ItU wr w.heap.size l k ∧ Fr Non w wr ∧ Hid (spanN innB l = k + spanN innB (l.drop k))) (fun wr => l.length - wr.iterPos w.heap.size)
  case atStart => exact ⟨0, by omega, ItU.new w l, (Fr.refl _ _).alloc _, Lib.hid (by simp)⟩
  case round =>
    obtain ⟨k, hk, hit, hfr, hd⟩ := hrel
    have hp0 := hit.pos
    by_cases hlt : k < l.length
    · obtain ⟨W, hnx, hitW, hfW⟩ := nextU wr w.heap.size k l hit hlt
      have hfrW := hfr.fresh hfW (fun q e => by have : q = w.heap.size := e; omega)
      have HC := Lib.hid (fun V => winner_any (dcU (l.drop k)).1 V)
      have hw := dcU_w (l := l.drop k) (by intro e; have := congrArg List.length e; simp at this; omega)
      rw [List.length_drop] at hw
      cases hq : innR (dcU (l.drop k)).1 with
      | true =>
        have HM := Lib.hid (sp_more sp_inn hlt hd.out hq).1
        rw [hq] at HC
        clear hd hit hfr hfW hq
        generalize (dcU (l.drop k)).1 = r at *
        generalize hq : k + (dcU (l.drop k)).2 = q at *
        have hkq : k < q := by omega
        have hql : q ≤ l.length := by omega
        clear hq hw
        go_wp2_with (refine (HC.out _).mono ?_; rintro e w1 ⟨rfl, rfl⟩)
        clear HC
        go_roundw
        case rel => exact ⟨q, hql, hitW, hfrW, HM⟩
        case measure => rw [hp0, hitW.pos]; omega
      | false =>
        have HE := Lib.hid (sp_stop sp_inn hlt hd.out hq)
        rw [hq] at HC
        clear hd hit hfr hfW hq
        generalize (dcU (l.drop k)).1 = r at *
        clear hw
        go_wp2_with (refine (HC.out _).mono ?_; rintro e w1 ⟨rfl, rfl⟩)
        go_ret
        exact ⟨by rw [HE.out]; rfl, hfrW⟩
    · have hnx := fun ty => nextU_end wr w.heap.size k l hit hlt ty
      have HE := Lib.hid (sp_end hlt hk hd.out)
      clear hd
      go_wp2
      go_ret
      exact ⟨by rw [HE.out]; rfl, hfr⟩

set_option maxHeartbeats 1000000 in
theorem while_dig (l : List UInt8) (w : World) (hl : l.length ≤ 1000000000) : Calls Tryd.prog 33 #[.func (.func 22) #[] #[], .string ⟨l.toArray⟩] w fun e w' => e = .returned (.int .i64 (spanN digB l : Nat)) ∧ Fr Non w w' := by
  go_enter Tryd.func33, Tryd.ntmps33
  go_wp2
  go_loopw [] (fun wr => ∃ k, k ≤ l.length ∧ ItU wr w.heap.size l k ∧ Fr Non w wr ∧ Hid (spanN digB l = k + spanN digB (l.drop k))) (fun wr => l.length - wr.iterPos w.heap.size)
  case atStart => exact ⟨0, by omega, ItU.new w l, (Fr.refl _ _).alloc _, Lib.hid (by simp)⟩
  case round =>
    obtain ⟨k, hk, hit, hfr, hd⟩ := hrel
    have hp0 := hit.pos
    by_cases hlt : k < l.length
    · obtain ⟨W, hnx, hitW, hfW⟩ := nextU wr w.heap.size k l hit hlt
      have hfrW := hfr.fresh hfW (fun q e => by have : q = w.heap.size := e; omega)
      have HC := Lib.hid (fun V => wdigit_any (dcU (l.drop k)).1 V)
      have hw := dcU_w (l := l.drop k) (by intro e; have := congrArg List.length e; simp at this; omega)
      rw [List.length_drop] at hw
      cases hq : digR (dcU (l.drop k)).1 with
      | true =>
        have HM := Lib.hid (sp_more sp_dig hlt hd.out hq).1
        rw [hq] at HC
        clear hd hit hfr hfW hq
        generalize (dcU (l.drop k)).1 = r at *
        generalize hq : k + (dcU (l.drop k)).2 = q at *
        have hkq : k < q := by omega
        have hql : q ≤ l.length := by omega
        clear hq hw
        go_wp2_with (refine (HC.out _).mono ?_; rintro e w1 ⟨rfl, rfl⟩)
        clear HC
        go_roundw
        case rel => exact ⟨q, hql, hitW, hfrW, HM⟩
        case measure => rw [hp0, hitW.pos]; omega
      | false =>
        have HE := Lib.hid (sp_stop sp_dig hlt hd.out hq)
        rw [hq] at HC
        clear hd hit hfr hfW hq
        generalize (dcU (l.drop k)).1 = r at *
        clear hw
        go_wp2_with (refine (HC.out _).mono ?_; rintro e w1 ⟨rfl, rfl⟩)
        go_ret
        exact ⟨by rw [HE.out]; rfl, hfrW⟩
    · have hnx := fun ty => nextU_end wr w.heap.size k l hit hlt ty
      have HE := Lib.hid (sp_end hlt hk hd.out)
      clear hd
      go_wp2
      go_ret
      exact ⟨by rw [HE.out]; rfl, hfr⟩
end Go.Proofs.YtpapgfjainllpaaDoor


namespace Go.Proofs.YtpapgfjainllpaaDoor
set_option linter.unusedVariables false
set_option linter.unusedSimpArgs false
set_option maxRecDepth 100000
open Go.RowKit

theorem ext_from (l : List UInt8) (k : Nat) (hk : k ≤ l.length) : (⟨l.toArray⟩ : ByteArray).extract k l.length = ⟨(l.drop k).toArray⟩ := by
  apply ByteArray.ext
  simp
  exact List.take_of_length_le (by simp)
theorem ext_to (l : List UInt8) (k : Nat) : (⟨l.toArray⟩ : ByteArray).extract 0 k = ⟨(l.take k).toArray⟩ := by
  apply ByteArray.ext
  simp
theorem ext_mid (l : List UInt8) (j k : Nat) : (⟨l.toArray⟩ : ByteArray).extract j k = ⟨((l.drop j).take (k - j)).toArray⟩ := by
  apply ByteArray.ext
  simp

/-- where a text ends, as the program says it -/
def clE (r : List UInt8) : Nat := match clB false r with
  | none => 0
  | some n => n + 1
/-- so far: e: a quote alone was seen last -/
def clI (r : List UInt8) (e : Bool) (k : Nat) : Prop := clB false r = (clB e (r.drop k)).map (· + k)
theorem cl_wide : ∀ (n : Nat) (l : List UInt8), (∀ j, j < n → 128 ≤ (l.getD j 0).toNat) → n ≤ l.length → clB false l = (clB false (l.drop n)).map (· + n)
  | 0, l, _, _ => by simp
  | n + 1, [], _, h => by simp at h
  | n + 1, c :: l, h, hn => by
    have hc := h 0 (by omega)
    have hc' : c ≠ 39 := by intro e; subst e; simp at hc
    rw [clB, if_neg hc']
    simp only [Bool.false_eq_true, if_false, List.drop_succ_cons]
    rw [cl_wide n l (fun j hj => by have := h (j + 1) (by omega); simpa using this) (by simpa using hn)]
    cases clB false (l.drop n) <;> simp; omega
theorem cl_quote {r : List UInt8} {e : Bool} {k : Nat} (h : clI r e k) (hk : k < r.length) (hq : (dcU (r.drop k)).1 = 39) : clI r (!e) (k + (dcU (r.drop k)).2) ∧ (dcU (r.drop k)).2 = 1 := by
  obtain ⟨c, r', hd, _, hr⟩ := drop_is hk
  unfold clI at h ⊢
  rw [hd] at h hq ⊢
  have hc : c = 39 := (is_rune 39 (by omega) c r').1 hq
  subst hc
  rw [dcU_low r' (by decide)]
  refine ⟨?_, rfl⟩
  rw [h, clB, if_pos rfl, ← hr]
  cases clB (!e) r' <;> simp; omega
theorem cl_other {r : List UInt8} {k : Nat} (h : clI r false k) (hk : k < r.length) (hq : (dcU (r.drop k)).1 ≠ 39) : clI r false (k + (dcU (r.drop k)).2) := by
  obtain ⟨c, r', hd, _, hr⟩ := drop_is hk
  unfold clI at h ⊢
  rw [← List.drop_drop]
  have hw := dcU_w (l := r.drop k) (by rw [hd]; simp)
  rw [h]
  rcases lo_or_hi c with hc | hc
  · rw [hd, dcU_low r' hc] at hq ⊢
    have hc' : c ≠ 39 := by intro e; subst e; exact hq rfl
    simp only [List.drop_succ_cons, List.drop_zero]
    rw [clB, if_neg hc']
    simp only [Bool.false_eq_true, if_false]
    cases clB false r' <;> simp; omega
  · have hh := (dcU_hi (c := c) (r := r') hc).2
    rw [← hd] at hh
    rw [cl_wide (dcU (r.drop k)).2 (r.drop k) hh hw.2]
    cases clB false ((r.drop k).drop (dcU (r.drop k)).2) <;> simp; omega
theorem cl_stop {r : List UInt8} {k : Nat} (h : clI r true k) (hk : k < r.length) (hq : (dcU (r.drop k)).1 ≠ 39) : clE r = k + 1 := by
  obtain ⟨c, r', hd, _, hr⟩ := drop_is hk
  unfold clI at h
  rw [hd] at h hq
  have hc' : c ≠ 39 := by intro e; subst e; exact hq ((is_rune 39 (by omega) _ r').2 rfl)
  rw [clB, if_neg hc'] at h
  simp at h
  unfold clE; rw [h]
theorem cl_end {r : List UInt8} {e : Bool} {k : Nat} (h : clI r e k) (hk : ¬ k < r.length) (hk2 : k ≤ r.length) : clE r = if e then r.length + 1 else 0 := by
  unfold clI at h
  rw [List.drop_eq_nil_of_le (by omega), clB] at h
  unfold clE
  rw [h]
  cases e <;> simp; omega

set_option maxHeartbeats 1000000 in
theorem closed_any (l : List UInt8) (w : World) (h1 : 1 ≤ l.length) (hl : l.length ≤ 1000000000) : Calls Tryd.prog 37 #[.string ⟨l.toArray⟩] w fun e w' => e = .returned (.int .i64 (clE (l.drop 1) : Nat)) ∧ Fr Non w w' := by
  have hx := ext_from l 1 h1
  have hd1 : (l.drop 1).length + 1 = l.length := by rw [List.length_drop]; omega
  have HL := Lib.hid hd1
  clear hd1
  generalize l.drop 1 = r at *
  go_enter Tryd.func37, Tryd.ntmps37
  go_wp2
  clear hx
  go_loopw [3] (fun v wr => ∃ k e, v = .bool e ∧ k ≤ r.length ∧ ItU wr w.heap.size r k ∧ Fr Non w wr ∧ Hid (clI r e k)) (fun _ wr => r.length - wr.iterPos w.heap.size)
  case atStart => exact ⟨0, false, rfl, by omega, ItU.new w r, (Fr.refl _ _).alloc _, Lib.hid (by unfold clI; simp)⟩
  case round =>
    obtain ⟨k, e, rfl, hk, hit, hfr, hd⟩ := hrel
    have hp0 := hit.pos
    have hL := HL.out
    by_cases hlt : k < r.length
    · obtain ⟨W, hnx, hitW, hfW⟩ := nextU wr w.heap.size k r hit hlt
      have hfrW := hfr.fresh hfW (fun q e => by have : q = w.heap.size := e; omega)
      have hw := dcU_w (l := r.drop k) (by intro e; have := congrArg List.length e; simp at this; omega)
      rw [List.length_drop] at hw
      by_cases hq : (dcU (r.drop k)).1 = 39
      · have HM := Lib.hid (cl_quote hd.out hlt hq).1
        rw [hq] at hnx
        clear hd hit hfr hfW hq
        generalize hq : k + (dcU (r.drop k)).2 = q at *
        have hkq : k < q := by omega
        have hql : q ≤ r.length := by omega
        clear hq hw
        go_wp2
        go_roundw
        case rel => exact ⟨q, !e, rfl, hql, hitW, hfrW, HM⟩
        case measure => rw [hp0, hitW.pos]; omega
      · have hqb : (((dcU (r.drop k)).1 : Int) == 39) = false := by rw [beq_eq_false_iff_ne]; omega
        cases e with
        | false =>
          have HM := Lib.hid (cl_other hd.out hlt hq)
          clear hd hit hfr hfW hq
          generalize (dcU (r.drop k)).1 = x at *
          generalize hq : k + (dcU (r.drop k)).2 = q at *
          have hkq : k < q := by omega
          have hql : q ≤ r.length := by omega
          clear hq hw
          go_wp2
          go_roundw
          case rel => exact ⟨q, false, rfl, hql, hitW, hfrW, HM⟩
          case measure => rw [hp0, hitW.pos]; omega
        | true =>
          have HE := Lib.hid (cl_stop hd.out hlt hq)
          clear hd hit hfr hfW hq
          generalize (dcU (r.drop k)).1 = x at *
          clear hw
          go_wp2
          go_ret
          refine ⟨ret_int ?_, hfrW⟩
          rw [HE.out]; push_cast; omega
    · have hnx := fun ty => nextU_end wr w.heap.size k r hit hlt ty
      have HE := Lib.hid (cl_end hd.out hlt hk)
      clear hd
      cases e with
      | true =>
        go_wp2
        go_ret
        refine ⟨ret_int ?_, hfr⟩
        rw [HE.out]; simp; omega
      | false =>
        go_wp2
        go_ret
        refine ⟨ret_int ?_, hfr⟩
        rw [HE.out]; simp
end Go.Proofs.YtpapgfjainllpaaDoor


namespace Go.Proofs.YtpapgfjainllpaaDoor
set_option linter.unusedVariables false
set_option linter.unusedSimpArgs false
set_option maxRecDepth 100000
open Go.ChangeShapes Go.WideShapes Go.ChangeAt Go.RowKit

theorem frame_own : ownKnob Tryd.prog.godebug = none := by kernel_rfl
theorem frame_laidOut : laidOutB Tryd.prog = true := by kernel_rfl

/-- every argument reads as it did -/
theorem trodAll_below {H : Type} {enc : TypeId × Value → H} {W W' : World} (hb : Below W.heap.size W W') :
    ∀ (ts : List TypeId) (vs : List Value) (ds : List (DataW H)) (ps : List MemPlace), (∀ t ∈ ts, Tryd.prog.readableRec t = true ∧ t < Tryd.prog.types.size) →
      DataW.TrodAll enc Tryd.prog W 0 (fun _ => true) true ts vs ds ps → DataW.TrodAll enc Tryd.prog W' 0 (fun b => decide (b < W.heap.size)) true ts vs ds ps := by
  intro ts
  induction ts with
  | nil => intro vs ds ps _ h; cases vs <;> cases ds <;> simp_all [DataW.TrodAll]
  | cons t ts ih =>
    intro vs ds ps hr h
    cases vs with
    | nil => cases ds <;> simp_all [DataW.TrodAll]
    | cons v vs =>
      cases ds with
      | nil => simp_all [DataW.TrodAll]
      | cons d ds =>
        obtain ⟨p, q, h1, h2, rfl⟩ := h
        have hlt : ∀ x ∈ p, x.block < W.heap.size := by obtain ⟨m, hm⟩ := h1; exact DataW.trod_lt m _ _ _ hm
        have ht := hr t (List.mem_cons_self ..)
        exact ⟨p, q, Below.trod frame_laidOut ht.1 ht.2 h1 hb hlt, ih vs ds q (fun u hu => hr u (List.mem_cons_of_mem _ hu)) h2, rfl⟩

noncomputable def typesOk (ts : List TypeId) : Bool := ts.all fun t => Tryd.prog.readableRec t && decide (t < Tryd.prog.types.size)
theorem types_ok (ts : List TypeId) (h : typesOk ts = true) : ∀ t ∈ ts, Tryd.prog.readableRec t = true ∧ t < Tryd.prog.types.size := by
  intro t ht
  have := List.all_eq_true.1 h t ht
  simpa using this

end Go.Proofs.YtpapgfjainllpaaDoor


namespace Go.Proofs.YtpapgfjainllpaaDoor
set_option linter.unusedVariables false
set_option linter.unusedSimpArgs false
set_option maxRecDepth 100000
open Go.ChangeShapes Go.WideShapes Go.ChangeAt Go.RowKit

/-- f: an element's cells, k of them -/
structure Fd {α : Type} (f : α → List Value) (k : Nat) : Prop where
  len : ∀ x, (f x).length = k
  one : ∀ x, ∀ u ∈ f x, u.oneCell' = true
  pos : 0 < k
  small : k ≤ 64

section
variable {α : Type} {f : α → List Value} {k : Nat}

theorem catN_len (h : Fd f k) (l : List α) : (l.flatMap f).length = l.length * k := by
  induction l with
  | nil => simp
  | cons c l ih => rw [List.flatMap_cons, List.length_append, ih, h.len, List.length_cons, Nat.succ_mul, Nat.add_comm]
theorem catN_at (h : Fd f k) (l : List α) (j i : Nat) (hj : j < l.length) (hi : i < k) : (l.flatMap f)[j * k + i]? = (f l[j])[i]? := by
  induction l generalizing j with
  | nil => cases hj
  | cons c l ih =>
    rw [List.flatMap_cons]
    cases j with
    | zero => rw [List.getElem?_append_left (by rw [h.len]; omega)]; simp
    | succ j =>
      rw [Nat.succ_mul, List.getElem?_append_right (by rw [h.len]; omega)]
      rw [show j * k + k + i - (f c).length = j * k + i by rw [h.len]; omega]
      exact ih j (by simpa using hj)
theorem catN_one (h : Fd f k) (l : List α) : ∀ u ∈ l.flatMap f, u.oneCell' = true := by
  intro u hu
  obtain ⟨c, _, hc⟩ := List.mem_flatMap.1 hu
  exact h.one c u hc
theorem catN_set (h : Fd f k) (l : List α) (j i : Nat) (u : Value) (x y : α) (hj : l[j]? = some y) (hi : i < k) (hx : f x = (f y).set i u) : (l.set j x).flatMap f = (l.flatMap f).set (j * k + i) u := by
  induction l generalizing j with
  | nil => simp at hj
  | cons d l ih =>
    cases j with
    | zero =>
      obtain rfl : d = y := by simpa using hj
      rw [List.set_cons_zero, List.flatMap_cons, List.flatMap_cons, hx, List.set_append_left _ _ (by rw [h.len]; omega)]
      simp
    | succ j =>
      rw [List.set_cons_succ, List.flatMap_cons, List.flatMap_cons, ih j (by simpa using hj), Nat.succ_mul]
      rw [List.set_append_right _ _ (by rw [h.len]; omega), show j * k + k + i - (f d).length = j * k + i by rw [h.len]; omega]

/-- cells, one behind the other, that hold us -/
def AtN (w : World) (a : Addr) (us : List Value) : Prop := ∀ (i : Nat) (u : Value), us[i]? = some u → w.cell? (a.add i) = some u
theorem AtN.keep {w w' : World} {a : Addr} {us : List Value} (h : AtN w a us) (hk : a.block < w.heap.size → w'.heap[a.block]? = w.heap[a.block]?) : AtN w' a us := by
  intro i u hu
  have h1 := h i u hu
  have hb := World.block_lt_of_cell? w _ h1
  rw [add_block] at hb
  rw [← h1]
  exact World.cell?_of_block (by rw [add_block]; exact hk hb)
theorem AtN.non {w w' : World} {a : Addr} {us : List Value} (h : AtN w a us) (hf : Fr Non w w') : AtN w' a us := h.keep fun hb => hf.block _ hb (fun e => e)

/-- the slice v reads as the list l, each element's cells being f of it -/
def Ns (f : α → List Value) (k : Nat) (w : World) (v : Value) (l : List α) : Prop :=
  ∃ A c, v = .slice A l.length c ∧ l.length ≤ c ∧ (A = none → c = 0) ∧ ∀ a, A = some a → ∀ j (h : j < l.length), AtN w (a.add (j * k)) (f l[j])
/-- a row of the call's own, from block B on, of elements of type E -/
def No (f : α → List Value) (k : Nat) (E : TypeId) (w : World) (B : Nat) (v : Value) (l : List α) : Prop := w.ownsRow B E k v l.length (l.flatMap f)

theorem Ns.nil_ (w : World) : Ns f k w (.slice none 0 0) [] := ⟨none, 0, rfl, Nat.le_refl _, fun _ => rfl, fun _ h => by cases h⟩
theorem Ns.keep {w w' : World} {v : Value} {l : List α} (h : Ns f k w v l) (hk : ∀ b, v.ownBlock = some b → b < w.heap.size → w'.heap[b]? = w.heap[b]?) : Ns f k w' v l := by
  obtain ⟨A, c, rfl, h1, h2, h3⟩ := h
  refine ⟨A, c, rfl, h1, h2, fun a ha j hj => ?_⟩
  subst ha
  refine (h3 a rfl j hj).keep fun hb => ?_
  rw [add_block] at hb ⊢
  exact hk _ rfl hb
theorem Ns.fr {S : Nat → Prop} {w w' : World} {v : Value} {l : List α} (h : Ns f k w v l) (hf : Fr S w w') (hn : ∀ b, v.ownBlock = some b → ¬ S b) : Ns f k w' v l :=
  h.keep fun b hb hlt => hf.block b hlt (hn b hb)
theorem Ns.non {w w' : World} {v : Value} {l : List α} (h : Ns f k w v l) (hf : Fr Non w w') : Ns f k w' v l := h.fr hf fun _ _ e => e
theorem Ns.drew {w : World} {v : Value} {l : List α} (h : Ns f k w v l) : Ns f k w.drew v l := h.keep fun _ _ _ => rfl
theorem Ns.drewN {w : World} {v : Value} {l : List α} (h : Ns f k w v l) (n : Nat) : Ns f k (w.drewN n) v l := h.keep fun _ _ _ => rfl
theorem Ns.shape {w : World} {v : Value} {l : List α} (h : Ns f k w v l) : ∃ A c, v = .slice A l.length c := by
  obtain ⟨A, c, rfl, _⟩ := h; exact ⟨A, c, rfl⟩
/-- the element at j -/
theorem Ns.at_ {w : World} {A : Option Addr} {n c : Nat} {l : List α} (h : Ns f k w (.slice A n c) l) (j : Nat) (x : α) (hx : l[j]? = some x) : ∃ a, A = some a ∧ AtN w (a.add (j * k)) (f x) := by
  obtain ⟨hj, rfl⟩ := List.getElem?_eq_some_iff.1 hx
  obtain ⟨A0, c0, he, h1, h2, h3⟩ := h
  simp only [Value.slice.injEq] at he
  obtain ⟨rfl, rfl, rfl⟩ := he
  cases A with
  | none => have := h2 rfl; omega
  | some a => exact ⟨a, rfl, h3 a rfl j hj⟩

variable {E : TypeId}
theorem no_nil (w : World) (B : Nat) : No f k E w B (.slice none 0 0) [] := ⟨by simp, .inl ⟨rfl, rfl⟩⟩
theorem No.lt {w : World} {B : Nat} {v : Value} {l : List α} (h : No f k E w B v l) : ∀ b, v.ownBlock = some b → B ≤ b ∧ b < w.heap.size := World.ownsRow.lt h
theorem No.ns (hF : Fd f k) {w : World} {B : Nat} {v : Value} {l : List α} (h : No f k E w B v l) : Ns f k w v l := by
  rcases h.2 with ⟨rfl, h0⟩ | ⟨g, cap, cur, rfl, _, _, hle, _, _, _⟩
  · have hl : l = [] := List.eq_nil_of_length_eq_zero h0
    subst hl; exact Ns.nil_ w
  · refine ⟨_, cap, rfl, hle, (fun h => by cases h), fun a ha j hj i u hu => ?_⟩
    cases ha
    have hi : i < k := by rw [← hF.len l[j]]; exact (List.getElem?_eq_some_iff.1 hu).1
    rw [add_add]
    exact World.ownsRow.cells h (g := g) rfl (j * k + i) _ ((catN_at hF l j i hj hi).trans hu)
theorem No.keep {w w' : World} {B : Nat} {v : Value} {l : List α} (h : No f k E w B v l) (hk : ∀ b, v.ownBlock = some b → w'.heap[b]? = w.heap[b]?) : No f k E w' B v l := by
  refine ⟨h.1, ?_⟩
  rcases h.2 with h2 | ⟨g, cap, cur, hv, hb, hg, r⟩
  · exact .inl h2
  · exact .inr ⟨g, cap, cur, hv, hb, by rw [hk g (by rw [hv]; rfl)]; exact hg, r⟩
theorem No.fr {S : Nat → Prop} {w w' : World} {B : Nat} {v : Value} {l : List α} (h : No f k E w B v l) (hf : Fr S w w') (hn : ∀ b, v.ownBlock = some b → ¬ S b) : No f k E w' B v l :=
  h.keep fun b hb => hf.block b (h.lt b hb).2 (hn b hb)
theorem No.non {w w' : World} {B : Nat} {v : Value} {l : List α} (h : No f k E w B v l) (hf : Fr Non w w') : No f k E w' B v l := h.fr hf fun _ _ e => e
theorem No.alloc {w : World} {B : Nat} {v : Value} {l : List α} (h : No f k E w B v l) (o : Obj) : No f k E (w.alloc o) B v l := h.non ((Fr.refl _ _).alloc o)
theorem No.drew {w : World} {B : Nat} {v : Value} {l : List α} (h : No f k E w B v l) : No f k E w.drew B v l := h
theorem No.mono {w : World} {B B' : Nat} {v : Value} {l : List α} (h : No f k E w B v l) (hB : B' ≤ B) : No f k E w B' v l := by
  refine ⟨h.1, ?_⟩
  rcases h.2 with h2 | ⟨g, cap, cur, hv, hb, r⟩
  · exact .inl h2
  · exact .inr ⟨g, cap, cur, hv, by omega, r⟩
theorem No.kind {w : World} {B : Nat} {v : Value} {l : List α} (h : No f k E w B v l) : ∀ b, v.ownBlock = some b → ∃ cur, w.heap[b]? = some (.cells cur E (0, 0)) := by
  intro b hk
  rcases h.2 with ⟨rfl, _⟩ | ⟨g, cap, cur, rfl, _, hg, _⟩
  · cases hk
  · obtain rfl : g = b := by simpa [Value.ownBlock] using hk
    exact ⟨cur, hg⟩
theorem No.row {w : World} {B : Nat} {v : Value} {l : List α} (h : No f k E w B v l) (hn : 0 < l.length) : ∃ g cap, v = .slice (some ⟨g, 0, none⟩) l.length cap ∧ B ≤ g ∧ g < w.heap.size ∧ l.length ≤ cap ∧ cap ≤ maxLen := by
  rcases h.2 with ⟨rfl, h0⟩ | ⟨g, cap, cur, rfl, hb, hg, hle, hm, _⟩
  · omega
  · exact ⟨g, cap, rfl, hb, (Array.getElem?_eq_some_iff.1 hg).1, hle, hm⟩
theorem No.frozen {w : World} {B g n cap : Nat} {l : List α} (h : No f k E w B (.slice (some ⟨g, 0, none⟩) n cap) l) (hn : n = l.length) (j : Nat) : w.frozen? ⟨g, j, none⟩ = false := by
  subst hn; exact World.ownsRow.frozenAt h j
/-- one value stored -/
theorem No.put (hF : Fd f k) {w : World} {B g n cap : Nat} {l : List α} (h : No f k E w B (.slice (some ⟨g, 0, none⟩) n cap) l) (hn : n = l.length) (j i : Nat) (x y : α) (u : Value) (hy : l[j]? = some y) (hi : i < k) (hx : f x = (f y).set i u) :
    No f k E (w.setCell ⟨g, j * k + i, none⟩ u) B (.slice (some ⟨g, 0, none⟩) n cap) (l.set j x) := by
  subst hn
  unfold No
  rw [List.length_set, catN_set hF l j i u x y hy hi hx]
  exact (World.ownsRow.stored h (j * k + i) u).1
theorem no_lit (hF : Fd f k) (w : World) (B g : Nat) (l : List α) (cs : Array Value) (hcs : cs.toList = l.flatMap f) (hg : g = w.heap.size) (hB : B ≤ g) (hm : l.length ≤ 1000000) : No f k E (w.alloc (.cells cs E)) B (.slice (some ⟨g, 0, none⟩) l.length l.length) l := by
  subst hg
  have h := World.ownsRow_lit (e := E) (size := k) w cs l.length hB (by unfold maxLen; omega) (by rw [← Array.length_toList, hcs, catN_len hF])
  rw [hcs] at h
  exact h
/-- T: slices of E, whose elements have k cells; z: E's value of noughts -/
structure Eln (T E : TypeId) (z : Value) (k by_ : Nat) : Prop where
  under : Tryd.prog.underlying T = some (.slice E)
  info : (Tryd.prog.info? E).map (fun i => (i.zero, i.size, i.bytes)) = some (some z, k, by_)
  cells : z.cells.size = k
  small : by_ ≤ 512
variable {T : TypeId} {z : Value} {by_ : Nat}
/-- append of a slice's elements: the operation alone -/
theorem wp_appN (hF : Fd f k) (hE : Eln T E z k by_) {w : World} {o : Oper} {a : Act} {K : Act → World → Prop} {Q : Exit → Act → World → Prop} (s x : Operand)
    (ho : o.op = .call { callee := .builtin .append, args := #[s, x], argTypes := #[T, T] })
    (B : Nat) (v y : Value) (l m : List α) (hs : a.eval s = v) (hown : No f k E w B v l) (hx : a.eval x = y) (hy : Ns f k w y m)
    (hl : l.length + m.length < 68719476736) (hB : B ≤ w.heap.size)
    (h : ∀ v' w', No f k E w' B v' (l ++ m) → Fr (fun b => v.ownBlock = some b) w w' → K (a.put o.dst v') w') : o.wp Tryd.prog a w K Q := by
  obtain ⟨ii, hi, hz0, hz1, hz2⟩ := info_parts hE.info
  have hs' := hE.small
  have hk' := hF.small
  have hbl : (l.length + m.length) * by_ ≤ 35184372088832 := by
    have := Nat.mul_le_mul (show l.length + m.length ≤ 68719476736 by omega) hs'
    omega
  have hbk : (l.length + m.length) * k ≤ 4398046511104 := by
    have := Nat.mul_le_mul (show l.length + m.length ≤ 68719476736 by omega) hk'
    omega
  obtain ⟨A, c, rfl, hmc, hn, hcells⟩ := hy
  cases A with
  | some ad =>
    refine wp_append_own w s x T ho B E ii z k by_ hE.under hi hz0 hz1 hz2 hE.cells hF.pos v l.length (l.flatMap f) hs hown ad m.length c (m.flatMap f) hx (catN_len hF m) ?_ (catN_one hF m) (by unfold maxLen; omega) (by omega) hB ?_
    · intro j u hu
      have hp := hF.pos
      have hj : j < m.length * k := by rw [← catN_len hF]; exact (List.getElem?_eq_some_iff.1 hu).1
      have hd : j / k < m.length := Nat.div_lt_of_lt_mul (by rw [Nat.mul_comm]; exact hj)
      have hat := catN_at hF m (j / k) (j % k) hd (Nat.mod_lt _ hp)
      have ej : j / k * k + j % k = j := by rw [Nat.mul_comm]; exact Nat.div_add_mod j k
      rw [ej, hu] at hat
      have h3 := hcells ad rfl (j / k) hd (j % k) u hat.symm
      rw [add_add, ej] at h3
      exact h3
    · intro v' w' h1 h2 _
      refine h v' w' ?_ (Fr.of_grown h2)
      unfold No
      rw [List.flatMap_append, List.length_append]
      exact h1
  | none =>
    have hm : m = [] := List.eq_nil_of_length_eq_zero (by have := hn rfl; omega)
    subst hm
    have hc : c = 0 := hn rfl
    subst hc
    have hrun := run_append_owned_none (P := Tryd.prog) (w := w) B T o.type E ii k hE.under hi v l.length (l.flatMap f) hown
    unfold Oper.wp
    have hx' : a.eval x = .slice none 0 0 := hx
    simp [execOp, ho, resolve, invoke, builtin, hs, hx', hrun, Result.andThen]
    exact h v w (by simpa using hown) (Fr.refl _ _)
/-- append of one element, which was stored in a new block first -/
theorem wpList_pushN (hF : Fd f k) (hE : Eln T E z k by_) {w0 : World} {ops : Array Oper} {rest : List Oper} {o : Oper} {a : Act} {Q : Exit → Act → World → Prop} (hgd : o.guard = none) (s x : Operand)
    (ho : o.op = .call { callee := .builtin .append, args := #[s, x], argTypes := #[T, T] })
    (B : Nat) (v : Value) (l : List α) (hs : a.eval s = v) (hown : No f k E w0 B v l) (y : α) (cs : Array Value) (hcs : cs.toList = f y) (g : Nat) (hx : a.eval x = .slice (some ⟨g, 0, none⟩) 1 1) (hg : g = w0.heap.size)
    (hl : l.length < 68719476735) (hB : B ≤ w0.heap.size)
    (h : ∀ v' w', No f k E w' B v' (l ++ [y]) → Fr (fun b => v.ownBlock = some b) w0 w' → wpList Tryd.prog ops Q rest (a.put o.dst v') w') :
    wpList Tryd.prog ops Q (o :: rest) a (w0.alloc (.cells cs E)) := by
  subst hg
  have hlit : No f k E (w0.alloc (.cells cs E)) 0 (.slice (some ⟨w0.heap.size, 0, none⟩) 1 1) [y] := no_lit hF w0 0 _ [y] cs (by simpa using hcs) rfl (Nat.zero_le _) (by simp)
  refine wpList_plain hgd fun _ hK => wp_appN hF hE s x ho B v _ l [y] hs (hown.alloc _) hx (hlit.ns hF) (by simp; omega) (by simp; omega) fun v' w' h1 h2 => hK _ _ (h v' w' h1 (((Fr.refl _ _).alloc _).join h2 fun _ _ e => e))

end
end Go.Proofs.YtpapgfjainllpaaDoor


namespace Go.Proofs.YtpapgfjainllpaaDoor
set_option linter.unusedVariables false
set_option linter.unusedSimpArgs false
set_option maxRecDepth 100000
open Go.RowKit

def tkL (t : Tk) : List Value := [.int .i64 t.kind, .string ⟨t.txt.toArray⟩, .int .i64 t.num, .int .i64 t.at_]
def tkA (t : Tk) : Array Value := #[.int .i64 t.kind, .string ⟨t.txt.toArray⟩, .int .i64 t.num, .int .i64 t.at_]
def tkV (t : Tk) : Value := .agg (tkA t)
theorem fd_tk : Fd tkL 4 := ⟨fun _ => rfl, fun x u hu => by simp [tkL] at hu; rcases hu with rfl | rfl | rfl | rfl <;> rfl, by omega, by omega⟩
theorem eln_tkW : Eln 22 36 (.agg #[.int .i64 0, .string ⟨#[]⟩, .int .i64 0, .int .i64 0]) 4 40 := ⟨Tryd.underlying22, by kernel_rfl, rfl, by decide⟩
abbrev Tks (w : World) (v : Value) (l : List Tk) : Prop := Ns tkL 4 w v l
abbrev TkoW (w : World) (B : Nat) (v : Value) (l : List Tk) : Prop := No tkL 4 36 w B v l
abbrev TkBW (w : World) (g : Nat) (c : Tk) : Prop := Blk w g 36 #[.int .i64 c.kind, .string ⟨c.txt.toArray⟩, .int .i64 c.num, .int .i64 c.at_]
abbrev TkBR (w : World) (g : Nat) (c : Tk) : Prop := Blk w g 42 #[.int .i64 c.kind, .string ⟨c.txt.toArray⟩, .int .i64 c.num, .int .i64 c.at_]
theorem tkW_new (w : World) (c : Tk) : TkBW (w.alloc (.cells #[.int .i64 c.kind, .string ⟨c.txt.toArray⟩, .int .i64 c.num, .int .i64 c.at_] 36)) w.heap.size c := Blk.new _ _ _
theorem ret_tkW {fn : Func} {p u : Tmp} (h : fn.results = #[.cell p 36, .tmp u]) (tmps : Array Value) (w : World) (g : Nat) (c : Tk) (v : Value)
    (hp : tmps.getD p undef = .pointer (some ⟨g, 0, none⟩)) (hv : tmps.getD u undef = v) (hg : TkBW w g c) : (results fn tmps).run Tryd.prog w = .ok (.tuple #[tkV c, v]) w := by
  have hl : (loadVar 36 ⟨g, 0, none⟩).run Tryd.prog w = .ok (tkV c) w :=
    run_loadVar_row w g 36 36 _ (0, 0) _ hg Tryd.underlying36 rfl (by kernel_rfl)
  rw [results_cell_tmp h, hp, hv]
  simp [asAddr, hl, Result.andThen]
/-- what a walk asks of a token in a block -/
def TkF (w : World) (g : Nat) (t : Tk) : Prop :=
    w.cell? ⟨g, 0, none⟩ = some (.int .i64 t.kind) ∧ w.cell? ⟨g, 1, none⟩ = some (.string ⟨t.txt.toArray⟩) ∧ w.cell? ⟨g, 2, none⟩ = some (.int .i64 t.num) ∧ w.cell? ⟨g, 3, none⟩ = some (.int .i64 t.at_) ∧
    w.frozen? ⟨g, 0, none⟩ = false ∧ w.frozen? ⟨g, 1, none⟩ = false ∧ w.frozen? ⟨g, 2, none⟩ = false ∧ w.frozen? ⟨g, 3, none⟩ = false
theorem TkBW.facts {w : World} {g : Nat} {t : Tk} (h : TkBW w g t) : TkF w g t := ⟨h.cell 0, h.cell 1, h.cell 2, h.cell 3, h.frozen 0, h.frozen 1, h.frozen 2, h.frozen 3⟩
theorem TkBR.facts {w : World} {g : Nat} {t : Tk} (h : TkBR w g t) : TkF w g t := ⟨h.cell 0, h.cell 1, h.cell 2, h.cell 3, h.frozen 0, h.frozen 1, h.frozen 2, h.frozen 3⟩
/-- a token stored whole, as a walk spells it -/
def setTk (w : World) (g : Nat) (t : Tk) : World := (((w.setCell ⟨g, 0, none⟩ (.int .i64 t.kind)).setCell ⟨g, 1, none⟩ (.string ⟨t.txt.toArray⟩)).setCell ⟨g, 2, none⟩ (.int .i64 t.num)).setCell ⟨g, 3, none⟩ (.int .i64 t.at_)
theorem setTk_fr (w : World) (g : Nat) (t : Tk) : Fr (One g) w (setTk w g t) := ((((Fr.refl (One g) w).set1 0 _).set1 1 _).set1 2 _).set1 3 _
theorem setTk_W {w : World} {g : Nat} {c : Tk} (h : TkBW w g c) (t : Tk) : TkBW (setTk w g t) g t := (((h.set 0 _).set 1 _).set 2 _).set 3 _
/-- the empty token in the block made first, behind what was done since -/
theorem tkW_after {w w1 : World} (hf : Fr Non (w.alloc (.cells #[.int .i64 0, .string ⟨#[]⟩, .int .i64 0, .int .i64 0] 36)) w1) : TkBW w1 w.heap.size noTk ∧ Fr Non w w1 :=
  ⟨(tkW_new w noTk).fr hf (fun e => e), ((Fr.refl Non w).alloc _).then hf⟩
theorem setTk_end {w w1 : World} (hf : Fr Non w w1) (t : Tk) : Fr Non w (setTk w1 w.heap.size t) := hf.fresh (setTk_fr _ _ _) (fun k e => by have : k = w.heap.size := e; omega)

/-- how a word is told -/
def TkEnd (x : Option (Tk × Nat)) (e : Ending) : Prop := match x with
  | none => ∃ t, e = .returned (.tuple #[tkV t, .int .i64 0])
  | some (t, n) => e = .returned (.tuple #[tkV t, .int .i64 (n : Nat)])
theorem tk_end1 (t : Tk) (n : Nat) : TkEnd (some (t, n + 1)) (.returned (.tuple #[tkV t, .int .i64 ((n : Int) + 1)])) := by
  show _ = Ending.returned (.tuple #[tkV t, .int .i64 ((n + 1 : Nat) : Int)])
  push_cast; rfl
theorem clE_none {r : List UInt8} (h : qtB r = none) : clE r = 0 := by unfold clE; rw [qt_cl, h]; rfl
theorem clE_some {r : List UInt8} {x : List UInt8 × Nat} (h : qtB r = some x) : clE r = x.2 + 1 := by unfold clE; rw [qt_cl, h]; rfl

set_option maxHeartbeats 1000000 in
theorem wtext_any (l : List UInt8) (w : World) (hW : Lw w) (h1 : 1 ≤ l.length) (hl : l.length ≤ 1000000) : Calls Tryd.prog 24 #[.string ⟨l.toArray⟩] w fun e w' => TkEnd ((qtB (l.drop 1)).map fun x => (⟨3, x.1, 0, 0⟩, x.2 + 1)) e ∧ Fr Non w w' := by
  have HC := Lib.hid (fun V => closed_any l V h1 (by omega))
  cases hq : qtB (l.drop 1) with
  | none =>
    rw [clE_none hq] at HC
    go_enter Tryd.func24, Tryd.ntmps24
    go_wp2_with fail
    refine (HC.out _).mono ?_
    rintro e w1 ⟨rfl, hf1⟩
    obtain ⟨hB, hf⟩ := tkW_after hf1
    obtain ⟨c0, c1, c2, c3, z0, z1, z2, z3⟩ := hB.facts
    dsimp only [noTk] at c0 c1 c2 c3
    have HB := Lib.hid hB
    have HF := Lib.hid hf
    clear hf1 HC hq hB hf
    go_wp2
    exact bodyPost_ret (ret_tkW (p := 2) (u := 3) rfl _ _ w.heap.size noTk (.int .i64 0) rfl rfl (setTk_W HB.out noTk)) rfl ⟨⟨noTk, rfl⟩, setTk_end HF.out noTk⟩
  | some x =>
    rw [clE_some hq] at HC
    obtain ⟨q1, q2, _, q4, _⟩ := qt_le _ x hq
    rw [List.length_drop] at q2
    have hx := ext_mid l 1 x.2
    have HR := Lib.hid (fun V h => srep_any ((l.drop 1).take (x.2 - 1)) [39, 39] [39] V h (by simp; omega) (by simp) (by simp))
    rw [unq_rep, ← q4] at HR
    have HL := Lib.hid hW
    clear hq q4
    generalize (l.drop 1).take (x.2 - 1) = m at *
    obtain ⟨t, n⟩ := x
    dsimp only at *
    have hb : ((n + 1 : Nat) : Int) ≤ l.length := by omega
    go_enter Tryd.func24, Tryd.ntmps24
    go_wp2_with fail
    refine (HC.out _).mono ?_
    rintro e w1 ⟨rfl, hf1⟩
    have HF1 := Lib.hid hf1
    clear hf1 HC
    go_wp2_with fail
    refine (HR.out _ (HL.out.non (((Fr.refl Non w).alloc _).then HF1.out))).mono ?_
    rintro e w2 ⟨rfl, hf2⟩
    obtain ⟨hB, hf⟩ := tkW_after (HF1.out.trans hf2)
    obtain ⟨c0, c1, c2, c3, z0, z1, z2, z3⟩ := hB.facts
    dsimp only [noTk] at c0 c1 c2 c3
    have HB := Lib.hid hB
    have HF := Lib.hid hf
    clear hf2 HF1 HL HR hB hf
    go_wp2
    exact bodyPost_ret (ret_tkW (p := 2) (u := 3) rfl _ _ w.heap.size ⟨3, t, 0, 0⟩ (.int .i64 ((n : Int) + 1)) rfl rfl (setTk_W HB.out ⟨3, t, 0, 0⟩)) rfl ⟨tk_end1 ⟨3, t, 0, 0⟩ n, setTk_end HF.out ⟨3, t, 0, 0⟩⟩
end Go.Proofs.YtpapgfjainllpaaDoor


namespace Go.Proofs.YtpapgfjainllpaaDoor
set_option linter.unusedVariables false
set_option linter.unusedSimpArgs false
set_option maxRecDepth 100000
open Go.RowKit

set_option maxHeartbeats 1000000 in
theorem wname_any (l : List UInt8) (w : World) (hl : l.length ≤ 1000000) : Calls Tryd.prog 21 #[.string ⟨l.toArray⟩] w fun e w' => TkEnd (some (⟨1, l.take (spanN innB l), 0, 0⟩, spanN innB l)) e ∧ Fr Non w w' := by
  have HC := Lib.hid (fun V => while_inn l V (by omega))
  have hn := span_le innB l
  have hx := ext_to l (spanN innB l)
  generalize spanN innB l = n at *
  generalize l.take n = m at *
  go_enter Tryd.func21, Tryd.ntmps21
  go_wp2_with fail
  refine (HC.out _).mono ?_
  rintro e w1 ⟨rfl, hf1⟩
  obtain ⟨hB, hf⟩ := tkW_after hf1
  obtain ⟨c0, c1, c2, c3, z0, z1, z2, z3⟩ := hB.facts
  dsimp only [noTk] at c0 c1 c2 c3
  have HB := Lib.hid hB
  have HF := Lib.hid hf
  clear hf1 HC hB hf
  go_wp2
  exact bodyPost_ret (ret_tkW (p := 2) (u := 3) rfl _ _ w.heap.size ⟨1, m, 0, 0⟩ (.int .i64 (n : Int)) rfl rfl (setTk_W HB.out ⟨1, m, 0, 0⟩)) rfl ⟨rfl, setTk_end HF.out ⟨1, m, 0, 0⟩⟩

theorem wdigits_any (n : Int) (w : World) (hW : Lw w) (hn : I64b n) : Calls Tryd.prog 12 #[.int .i64 n] w fun e w' => e = .returned (.string ⟨(Lib.itoa n).toArray⟩) ∧ Fr Non w w' := by
  have H := Lib.hid (sfmt_any n w hW hn)
  go_enter Tryd.func12, Tryd.ntmps12
  go_wp2_with fail
  refine H.out.mono ?_
  rintro e w1 ⟨rfl, hf1⟩
  have HF := Lib.hid hf1
  clear hf1 H
  go_wp2
  go_ret
  exact ⟨rfl, HF.out⟩

/-- of how many bytes a number is -/
def sgnN (l : List UInt8) : Nat := if [45].isPrefixOf l then 1 else 0
def nszN (l : List UInt8) : Nat := sgnN l + spanN digB (l.drop (sgnN l))
theorem nsz_le (l : List UInt8) : sgnN l ≤ l.length ∧ nszN l ≤ l.length := by
  have h1 : sgnN l ≤ l.length := by
    unfold sgnN
    cases l with
    | nil => simp
    | cons c r => split <;> simp
  have := span_le digB (l.drop (sgnN l))
  rw [List.length_drop] at this
  unfold nszN
  exact ⟨h1, by omega⟩
theorem nsz_is {c : UInt8} {r : List UInt8} (h : (digB c || decide (c = 45)) = true) : nszN (c :: r) = 1 + spanN digB r := by
  unfold nszN sgnN
  by_cases hc : c = 45
  · subst hc
    rw [if_pos (by simp [List.isPrefixOf])]; rfl
  · rw [if_neg (by simp [List.isPrefixOf]; exact fun e => hc e.symm)]
    have hd : digB c = true := by simpa [hc] using h
    show 0 + spanN digB (c :: r) = _
    rw [span_yes hd]; omega
theorem trm_len (l : List UInt8) : (Lib.trimPrefix l [45]).length + sgnN l = l.length := by
  unfold Lib.trimPrefix Lib.hasPrefix sgnN
  split
  · rename_i h
    cases l with
    | nil => simp [List.isPrefixOf] at h
    | cons c r => simp
  · simp
theorem val_ok {l : List UInt8} {v : Int} (h : Lib.parseIntB 64 l = .ok v) : valB l = (if Lib.itoa v = l then some v else none) ∧ I64b v := by
  have hb := Lib.parseIntB_bounds h
  have e : (2 ^ (64 - 1) : Nat) = 9223372036854775808 := rfl
  rw [e] at hb
  refine ⟨?_, by unfold I64b; omega⟩
  unfold valB; rw [h]
theorem val_bad {l : List UInt8} (h : ∀ v, Lib.parseIntB 64 l ≠ .ok v) : valB l = none := by
  unfold valB
  rcases hp : Lib.parseIntB 64 l with v | _ | _
  · exact absurd hp (h v)
  · rfl
  · rfl

set_option maxHeartbeats 1000000 in
theorem wnumber_any (l : List UInt8) (w : World) (hW : Lw w) (hl : l.length ≤ 1000000) : Calls Tryd.prog 23 #[.string ⟨l.toArray⟩] w fun e w' => TkEnd ((valB (l.take (nszN l))).map fun v => (⟨2, [], v, 0⟩, nszN l)) e ∧ Fr Non w w' := by
  have HT := Lib.hid (fun V => strm_any l [45] V)
  have ht := trm_len l
  obtain ⟨hs, hn⟩ := nsz_le l
  have hx1 := ext_from l (sgnN l) hs
  have HC := Lib.hid (fun V => while_dig (l.drop (sgnN l)) V (by rw [List.length_drop]; omega))
  have hq := span_le digB (l.drop (sgnN l))
  rw [List.length_drop] at hq
  have hx2 := ext_to l (sgnN l + spanN digB (l.drop (sgnN l)))
  show Calls _ _ _ _ fun e w' => TkEnd ((valB (l.take (sgnN l + spanN digB (l.drop (sgnN l))))).map fun v => (⟨2, [], v, 0⟩, sgnN l + spanN digB (l.drop (sgnN l)))) e ∧ Fr Non w w'
  have HP := Lib.hid (fun V h => sprs_any (l.take (sgnN l + spanN digB (l.drop (sgnN l)))) V h (by rw [List.length_take]; omega))
  clear hn
  generalize Lib.trimPrefix l [45] = T at *
  generalize sgnN l = a at *
  generalize l.drop a = d at *
  generalize spanN digB d = q at *
  have hs2 : (a : Int) + (q : Int) = ((a + q : Nat) : Int) := by omega
  have hn : a + q ≤ l.length := by omega
  generalize a + q = n at *
  generalize l.take n = m at *
  have he : (l.length : Int) - (T.length : Int) = (a : Int) := by omega
  have HL := Lib.hid hW
  go_enter Tryd.func23, Tryd.ntmps23
  go_wp2_with fail
  refine (HT.out _).mono ?_
  rintro e w1 ⟨rfl, rfl⟩
  clear HT
  go_wp2_with fail
  refine (HC.out _).mono ?_
  rintro e w1 ⟨rfl, hf1⟩
  have HF1 := Lib.hid hf1
  clear hf1 HC
  go_wp2_with fail
  refine (HP.out _ (HL.out.non (((Fr.refl Non w).alloc _).then HF1.out))).mono ?_
  rintro e w2 ⟨hE, hf2⟩
  have HF2 := Lib.hid (HF1.out.trans hf2)
  clear hf2 HF1 HP
  rcases hE with ⟨v, hv, rfl⟩ | ⟨hno, x, ty, p, rfl⟩
  · obtain ⟨hv1, hv2⟩ := val_ok hv
    have HD := Lib.hid (fun V h => wdigits_any v V h hv2)
    have HV := Lib.hid hv1
    clear hv1 hv2 hv
    go_wp2_with fail
    have hL2 := (HL.out.non (((Fr.refl Non w).alloc _).then HF2.out)).drew
    go_region_held3 (fun _ => True) (exact trivial) (first | (go_at_call 12; refine (HD.out _ hL2).mono ?_; rintro e w3 ⟨rfl, hf3⟩))
    obtain ⟨hB, hf⟩ := tkW_after (HF2.out.drew.trans hf3)
    obtain ⟨c0, c1, c2, c3, z0, z1, z2, z3⟩ := hB.facts
    dsimp only [noTk] at c0 c1 c2 c3
    have HB := Lib.hid hB
    have HF := Lib.hid hf
    clear HF2 hB hf hf3 HD hL2
    cases hb : (Lib.itoa v == m) with
    | true =>
      replace HV := Lib.hid (HV.out.trans (if_pos (by simpa using hb)))
      go_wp2
      rw [HV.out]
      exact bodyPost_ret (ret_tkW (p := 2) (u := 3) rfl _ _ w.heap.size ⟨2, [], v, 0⟩ (.int .i64 (n : Int)) rfl rfl (setTk_W HB.out ⟨2, [], v, 0⟩)) rfl ⟨rfl, setTk_end HF.out ⟨2, [], v, 0⟩⟩
    | false =>
      replace HV := Lib.hid (HV.out.trans (if_neg (by simpa using hb)))
      go_wp2
      rw [HV.out]
      exact bodyPost_ret (ret_tkW (p := 2) (u := 3) rfl _ _ w.heap.size noTk (.int .i64 0) rfl rfl (setTk_W HB.out noTk)) rfl ⟨⟨noTk, rfl⟩, setTk_end HF.out noTk⟩
  · have HV := Lib.hid (val_bad hno)
    clear hno
    go_wp2_with fail
    go_quiet (fail)
    obtain ⟨hB, hf⟩ := tkW_after (HF2.out.drewN nq)
    obtain ⟨c0, c1, c2, c3, z0, z1, z2, z3⟩ := hB.facts
    dsimp only [noTk] at c0 c1 c2 c3
    have HB := Lib.hid hB
    have HF := Lib.hid hf
    clear HF2 hB hf
    generalize w2.drewN nq = W at *
    go_wp2
    rw [HV.out]
    exact bodyPost_ret (ret_tkW (p := 2) (u := 3) rfl _ _ w.heap.size noTk (.int .i64 0) rfl rfl (setTk_W HB.out noTk)) rfl ⟨⟨noTk, rfl⟩, setTk_end HF.out noTk⟩
end Go.Proofs.YtpapgfjainllpaaDoor
