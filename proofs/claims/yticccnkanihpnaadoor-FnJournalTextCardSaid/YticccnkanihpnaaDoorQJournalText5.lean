import Derived.Test.YticccnkanihpnaaDoorQJournalText1
import Derived.Test.YticccnkanihpnaaDoorQJournalText2
import Derived.Test.YticccnkanihpnaaDoorQJournalText3
import Derived.Shelf.Strings.Builder1
import Derived.Shelf.Strings.BuilderF
import Derived.Shelf.Strings.BuilderK
import Derived.Shelf.Strconv.Atoi
import Derived.Shelf.Strconv.Itoa0
import Derived.Shelf.Strconv.Itoa1
import Derived.Shelf.LaysM
import Derived.Shelf.Strconv.Itoa2
import Derived.Shelf.Strconv.Itoa3
import Derived.Shelf.Strconv.AtoiErrFast
import Derived.Shelf.Strconv.ParseIntEmpty
import Derived.Shelf.Strconv.AtoiFail
import Derived.Shelf.Strconv.Clone
import Derived.Shelf.Strconv.SyntaxError
import Derived.Shelf.LaysC
import Derived.Shelf.Strconv.ToError
import Derived.Shelf.Strconv.AtoiErr
import Derived.Shelf.Strconv.ErrVar
import Derived.Shelf.Strconv.Lower
import Derived.Shelf.Strconv.ParseUint10
import Derived.Shelf.Strconv.ParseUint10Empty
import Derived.Shelf.Strconv.ParseUint10Any
import Derived.Shelf.Strconv.ParseInt10
import Derived.Shelf.Strconv.AtoiLong
import Derived.Shelf.Strconv.AtoiInnerAll
import Derived.Shelf.Strconv.RangeError
import Derived.Shelf.Strconv.ToErrorRange
import Derived.Shelf.Strconv.AtoiAll
import Derived.Shelf.Strconv.ErrVarAll
import Derived.Shelf.Strings.Search1
import Derived.Shelf.Strings.Search2
import Derived.Shelf.Strings.Search3
import Derived.Shelf.Strings.Cut
import Derived.Shelf.Strings.Count
import Derived.Shelf.Strings.Shaped
import Derived.Shelf.Strings.Split
import Derived.Shelf.Strings.SplitShaped
import Derived.Shelf.Unicode.DecodeSlow
import Derived.Test.YticccnkanihpnaaDoorProg
import Derived.Lib.AtoiTie
import Derived.WalkKit
import Derived.Laws.CopyRow
import Derived.Laws.IdiomCopy
import Derived.Laws.Tables
namespace Go.Proofs
open Go.Shelf
def Tryd.lays169_ren:Go.Shelf.Ren:=⟨fun | 169=>52 | n=>n,fun | 70=>77 | 9=>9 | 0=>0 | 72=>79 | 37=>22 | 127=>96 | 3=>3 | 5=>5 | n=>n,fun | n=>n⟩
theorem Tryd.lays169:Go.Proofs.Lays.n169 Tryd.prog Tryd.lays169_ren:={
 mixed:=by kernel_rfl
 f169:=Tryd.func52.trans (congrArg some (by kernel_rfl))
 t0:=Tryd.underlying0
 a0:=Tryd.isAgg0
 z0:=Tryd.sizeOf0
 v0:=Tryd.zeroValue0
 t3:=Tryd.underlying3
 a3:=Tryd.isAgg3
 z3:=Tryd.sizeOf3
 v3:=Tryd.zeroValue3
 t9:=Tryd.underlying9
 a9:=Tryd.isAgg9
 z9:=Tryd.sizeOf9
 v9:=Tryd.zeroValue9
 t37:=Tryd.underlying22
 a37:=Tryd.isAgg22
 z37:=Tryd.sizeOf22
 v37:=Tryd.zeroValue22
 t70:=Tryd.underlying77
 a70:=Tryd.isAgg77
 z70:=Tryd.sizeOf77
 v70:=Tryd.zeroValue77
 t72:=Tryd.underlying79
 a72:=Tryd.isAgg79
 z72:=Tryd.sizeOf79
 v72:=Tryd.zeroValue79
 t127:=Tryd.underlying96
 a127:=Tryd.isAgg96
 z127:=Tryd.sizeOf96
 v127:=Tryd.zeroValue96 }
theorem Tryd.Builder_Extra_169:Builder.Extra Tryd.prog Tryd.lays169_ren:={
 sizeBuilder:=by kernel_rfl
 liesBuilder:=by kernel_rfl
 t5:=Tryd.underlying5
 a5:=Tryd.isAgg5
 z5:=Tryd.sizeOf5
 v5:=Tryd.zeroValue5
 infoByte:=by kernel_rfl
 cellsByte:=by kernel_rfl
 sizeByte:=by kernel_rfl
 neB5:=by decide }
open Go.RowKit in
theorem Tryd.Builder_String_any (B b:Nat) (l:List UInt8) (w:World) (h:Lib.IsBuilder 79 5 B b (Lib.byteCells l) w) (hBw:B<=w.heap.size) :
  Calls Tryd.prog 52 #[.pointer (some ⟨b,0,none⟩)] w fun e w'=>e=.returned (.string ⟨l.toArray⟩)∧Below B w w':=Any.Builder_String_any Tryd.lays169 Tryd.Builder_Extra_169 B b l w h hBw
open Go.RowKit Go.Sort Go.Lib in
def Tryd.laysM171_ren:Go.Shelf.Ren:=⟨fun | 171=>36 | 243=>56 | 246=>64 | 283=>71 | 284=>72 | 285=>73 | 286=>74 | 129=>85 | 317=>84 | 318=>86 | 319=>87 | 320=>88 | 337=>97 | 338=>98 | n=>n,fun | 3=>3 | 9=>9 | 2=>2 | 4=>4 | 171=>103 | 0=>0 | 53=>104 | 37=>22 | 5=>5 | 173=>107 | 212=>115 | 51=>116 | 20=>20 | 213=>117 | 46=>113 | 232=>138 | 233=>139 | n=>n,fun | 17=>1 | 18=>6 | 19=>7 | n=>n⟩
theorem Tryd.laysM171:Go.Proofs.LaysM.n171 Tryd.prog Tryd.laysM171_ren:={
 mixed:=by kernel_rfl
 f129:=Tryd.func85.trans (congrArg some (by kernel_rfl))
 f171:=Tryd.func36.trans (congrArg some (by kernel_rfl))
 f243:=Tryd.func56.trans (congrArg some (by kernel_rfl))
 f246:=Tryd.func64.trans (congrArg some (by kernel_rfl))
 f283:=Tryd.func71.trans (congrArg some (by kernel_rfl))
 f284:=Tryd.func72.trans (congrArg some (by kernel_rfl))
 f285:=Tryd.func73.trans (congrArg some (by kernel_rfl))
 f286:=Tryd.func74.trans (congrArg some (by kernel_rfl))
 f317:=Tryd.func84.trans (congrArg some (by kernel_rfl))
 f318:=Tryd.func86.trans (congrArg some (by kernel_rfl))
 f319:=Tryd.func87.trans (congrArg some (by kernel_rfl))
 f320:=Tryd.func88.trans (congrArg some (by kernel_rfl))
 f337:=Tryd.func97.trans (congrArg some (by kernel_rfl))
 f338:=Tryd.func98.trans (congrArg some (by kernel_rfl))
 t0:=Tryd.underlying0
 a0:=Tryd.isAgg0
 z0:=Tryd.sizeOf0
 v0:=Tryd.zeroValue0
 t2:=Tryd.underlying2
 a2:=Tryd.isAgg2
 z2:=Tryd.sizeOf2
 v2:=Tryd.zeroValue2
 t3:=Tryd.underlying3
 a3:=Tryd.isAgg3
 z3:=Tryd.sizeOf3
 v3:=Tryd.zeroValue3
 t4:=Tryd.underlying4
 a4:=Tryd.isAgg4
 z4:=Tryd.sizeOf4
 v4:=Tryd.zeroValue4
 t5:=Tryd.underlying5
 a5:=Tryd.isAgg5
 z5:=Tryd.sizeOf5
 v5:=Tryd.zeroValue5
 t9:=Tryd.underlying9
 a9:=Tryd.isAgg9
 z9:=Tryd.sizeOf9
 v9:=Tryd.zeroValue9
 t20:=Tryd.underlying20
 a20:=Tryd.isAgg20
 z20:=Tryd.sizeOf20
 v20:=Tryd.zeroValue20
 t37:=Tryd.underlying22
 a37:=Tryd.isAgg22
 z37:=Tryd.sizeOf22
 v37:=Tryd.zeroValue22
 t46:=Tryd.underlying113
 a46:=Tryd.isAgg113
 z46:=Tryd.sizeOf113
 v46:=Tryd.zeroValue113
 t51:=Tryd.underlying116
 a51:=Tryd.isAgg116
 z51:=Tryd.sizeOf116
 v51:=Tryd.zeroValue116
 t53:=Tryd.underlying104
 a53:=Tryd.isAgg104
 z53:=Tryd.sizeOf104
 v53:=Tryd.zeroValue104
 t171:=Tryd.underlying103
 a171:=Tryd.isAgg103
 z171:=Tryd.sizeOf103
 v171:=Tryd.zeroValue103
 t173:=Tryd.underlying107
 a173:=Tryd.isAgg107
 z173:=Tryd.sizeOf107
 v173:=Tryd.zeroValue107
 t212:=Tryd.underlying115
 a212:=Tryd.isAgg115
 z212:=Tryd.sizeOf115
 v212:=Tryd.zeroValue115
 t213:=Tryd.underlying117
 a213:=Tryd.isAgg117
 z213:=Tryd.sizeOf117
 t232:=Tryd.underlying138
 a232:=Tryd.isAgg138
 z232:=Tryd.sizeOf138
 v232:=Tryd.zeroValue138
 t233:=Tryd.underlying139
 a233:=Tryd.isAgg139
 z233:=Tryd.sizeOf139
 v233:=Tryd.zeroValue139
 g17:=by kernel_rfl
 g18:=by kernel_rfl
 g19:=by kernel_rfl
 i0:=by kernel_rfl
 i2:=by kernel_rfl
 i3:=by kernel_rfl
 i4:=by kernel_rfl
 i5:=by kernel_rfl
 i9:=by kernel_rfl
 i20:=by kernel_rfl
 i37:=by kernel_rfl
 i46:=by kernel_rfl
 i51:=by kernel_rfl
 i53:=by kernel_rfl
 i171:=by kernel_rfl
 i173:=by kernel_rfl
 i212:=by kernel_rfl
 i232:=by kernel_rfl
 i233:=by kernel_rfl
 m17:=by kernel_rfl
 m18:=by kernel_rfl
 m19:=by kernel_rfl }
open Go.RowKit Go.Sort Go.Lib in
theorem Tryd.strconv_Itoa (n : Int) (h0 : -9223372036854775808 ≤ n) (h1 : n ≤ 9223372036854775807) (w : World) (htab : Lib.TabIs Tryd.prog w "internal/strconv.uint64pow10" .u64 Lib.pow10Tab) :
  Calls Tryd.prog 36 #[.int .i64 n] w fun e w'=>e=.returned (.string ⟨(Lib.itoa n).toArray⟩)∧∃ k os,w'=grow (w.drewN k) os:=Any.strconv_Itoa Tryd.laysM171 n h0 h1 w htab
def Tryd.lays171_ren:Go.Shelf.Ren:=⟨fun | 171=>36 | 243=>56 | 246=>64 | 283=>71 | 284=>72 | 285=>73 | 286=>74 | 129=>85 | 317=>84 | 318=>86 | 319=>87 | 320=>88 | 337=>97 | 338=>98 | n=>n,fun | 3=>3 | 9=>9 | 2=>2 | 4=>4 | 171=>103 | 0=>0 | 53=>104 | 37=>22 | 5=>5 | 173=>107 | 212=>115 | 51=>116 | 20=>20 | 213=>117 | 46=>113 | 232=>138 | 233=>139 | n=>n,fun | 17=>1 | 18=>6 | 19=>7 | n=>n⟩
theorem Tryd.lays171:Go.Proofs.Lays.n171 Tryd.prog Tryd.lays171_ren:={
 mixed:=by kernel_rfl
 f129:=Tryd.func85.trans (congrArg some (by kernel_rfl))
 f171:=Tryd.func36.trans (congrArg some (by kernel_rfl))
 f243:=Tryd.func56.trans (congrArg some (by kernel_rfl))
 f246:=Tryd.func64.trans (congrArg some (by kernel_rfl))
 f283:=Tryd.func71.trans (congrArg some (by kernel_rfl))
 f284:=Tryd.func72.trans (congrArg some (by kernel_rfl))
 f285:=Tryd.func73.trans (congrArg some (by kernel_rfl))
 f286:=Tryd.func74.trans (congrArg some (by kernel_rfl))
 f317:=Tryd.func84.trans (congrArg some (by kernel_rfl))
 f318:=Tryd.func86.trans (congrArg some (by kernel_rfl))
 f319:=Tryd.func87.trans (congrArg some (by kernel_rfl))
 f320:=Tryd.func88.trans (congrArg some (by kernel_rfl))
 f337:=Tryd.func97.trans (congrArg some (by kernel_rfl))
 f338:=Tryd.func98.trans (congrArg some (by kernel_rfl))
 t0:=Tryd.underlying0
 a0:=Tryd.isAgg0
 z0:=Tryd.sizeOf0
 v0:=Tryd.zeroValue0
 t2:=Tryd.underlying2
 a2:=Tryd.isAgg2
 z2:=Tryd.sizeOf2
 v2:=Tryd.zeroValue2
 t3:=Tryd.underlying3
 a3:=Tryd.isAgg3
 z3:=Tryd.sizeOf3
 v3:=Tryd.zeroValue3
 t4:=Tryd.underlying4
 a4:=Tryd.isAgg4
 z4:=Tryd.sizeOf4
 v4:=Tryd.zeroValue4
 t5:=Tryd.underlying5
 a5:=Tryd.isAgg5
 z5:=Tryd.sizeOf5
 v5:=Tryd.zeroValue5
 t9:=Tryd.underlying9
 a9:=Tryd.isAgg9
 z9:=Tryd.sizeOf9
 v9:=Tryd.zeroValue9
 t20:=Tryd.underlying20
 a20:=Tryd.isAgg20
 z20:=Tryd.sizeOf20
 v20:=Tryd.zeroValue20
 t37:=Tryd.underlying22
 a37:=Tryd.isAgg22
 z37:=Tryd.sizeOf22
 v37:=Tryd.zeroValue22
 t46:=Tryd.underlying113
 a46:=Tryd.isAgg113
 z46:=Tryd.sizeOf113
 v46:=Tryd.zeroValue113
 t51:=Tryd.underlying116
 a51:=Tryd.isAgg116
 z51:=Tryd.sizeOf116
 v51:=Tryd.zeroValue116
 t53:=Tryd.underlying104
 a53:=Tryd.isAgg104
 z53:=Tryd.sizeOf104
 v53:=Tryd.zeroValue104
 t171:=Tryd.underlying103
 a171:=Tryd.isAgg103
 z171:=Tryd.sizeOf103
 v171:=Tryd.zeroValue103
 t173:=Tryd.underlying107
 a173:=Tryd.isAgg107
 z173:=Tryd.sizeOf107
 v173:=Tryd.zeroValue107
 t212:=Tryd.underlying115
 a212:=Tryd.isAgg115
 z212:=Tryd.sizeOf115
 v212:=Tryd.zeroValue115
 t213:=Tryd.underlying117
 a213:=Tryd.isAgg117
 z213:=Tryd.sizeOf117
 t232:=Tryd.underlying138
 a232:=Tryd.isAgg138
 z232:=Tryd.sizeOf138
 v232:=Tryd.zeroValue138
 t233:=Tryd.underlying139
 a233:=Tryd.isAgg139
 z233:=Tryd.sizeOf139
 v233:=Tryd.zeroValue139
 g17:=by kernel_rfl
 g18:=by kernel_rfl
 g19:=by kernel_rfl }
open Go.RowKit Go.Sort Go.Lib in
theorem Tryd.strconv_Itoa_small (i:Nat) (hi:i < 100) (w:World) :
  Calls Tryd.prog 36 #[.int .i64 i] w fun e w'=>e=.returned (.string ⟨(Lib.decDigits i).toArray⟩)∧w'=w:=Any.strconv_Itoa_small Tryd.lays171 i hi w
open Go.RowKit in
def Tryd.laysC172_ren:Go.Shelf.Ren:=⟨fun | 172=>68 | 244=>78 | 245=>79 | 247=>90 | 279=>91 | 280=>92 | 281=>93 | 282=>94 | 287=>99 | 316=>100 | 171=>36 | 205=>101 | 321=>102 | 322=>103 | 243=>56 | 246=>64 | 283=>71 | 284=>72 | 285=>73 | 286=>74 | 129=>85 | 317=>84 | 318=>86 | 319=>87 | 320=>88 | 337=>97 | 338=>98 | n=>n,fun | 9=>9 | 3=>3 | 75=>81 | 76=>82 | 4=>4 | 5=>5 | 167=>119 | 37=>22 | 0=>0 | 85=>120 | 2=>2 | 168=>122 | 53=>104 | 175=>132 | 46=>113 | 210=>136 | 127=>96 | 145=>143 | 143=>141 | 21=>21 | 171=>103 | 173=>107 | 212=>115 | 51=>116 | 20=>20 | 213=>117 | 232=>138 | 233=>139 | 80=>85 | n=>n,fun | 15=>4 | 16=>5 | 17=>1 | 18=>6 | 19=>7 | n=>n⟩
theorem Tryd.laysC172:Go.Proofs.LaysC.n172 Tryd.prog Tryd.laysC172_ren:={
 mixed:=by kernel_rfl
 f129:=Tryd.func85.trans (congrArg some (by kernel_rfl))
 f171:=Tryd.func36.trans (congrArg some (by kernel_rfl))
 f172:=Tryd.func68.trans (congrArg some (by kernel_rfl))
 f205:=Tryd.func101.trans (congrArg some (by kernel_rfl))
 f243:=Tryd.func56.trans (congrArg some (by kernel_rfl))
 f244:=Tryd.func78.trans (congrArg some (by kernel_rfl))
 f245:=Tryd.func79.trans (congrArg some (by kernel_rfl))
 f246:=Tryd.func64.trans (congrArg some (by kernel_rfl))
 f247:=Tryd.func90.trans (congrArg some (by kernel_rfl))
 f279:=Tryd.func91.trans (congrArg some (by kernel_rfl))
 f280:=Tryd.func92.trans (congrArg some (by kernel_rfl))
 f281:=Tryd.func93.trans (congrArg some (by kernel_rfl))
 f282:=Tryd.func94.trans (congrArg some (by kernel_rfl))
 f283:=Tryd.func71.trans (congrArg some (by kernel_rfl))
 f284:=Tryd.func72.trans (congrArg some (by kernel_rfl))
 f285:=Tryd.func73.trans (congrArg some (by kernel_rfl))
 f286:=Tryd.func74.trans (congrArg some (by kernel_rfl))
 f287:=Tryd.func99.trans (congrArg some (by kernel_rfl))
 f316:=Tryd.func100.trans (congrArg some (by kernel_rfl))
 f317:=Tryd.func84.trans (congrArg some (by kernel_rfl))
 f318:=Tryd.func86.trans (congrArg some (by kernel_rfl))
 f319:=Tryd.func87.trans (congrArg some (by kernel_rfl))
 f320:=Tryd.func88.trans (congrArg some (by kernel_rfl))
 f321:=Tryd.func102.trans (congrArg some (by kernel_rfl))
 f322:=Tryd.func103.trans (congrArg some (by kernel_rfl))
 f337:=Tryd.func97.trans (congrArg some (by kernel_rfl))
 f338:=Tryd.func98.trans (congrArg some (by kernel_rfl))
 t0:=Tryd.underlying0
 a0:=Tryd.isAgg0
 z0:=Tryd.sizeOf0
 v0:=Tryd.zeroValue0
 t2:=Tryd.underlying2
 a2:=Tryd.isAgg2
 z2:=Tryd.sizeOf2
 v2:=Tryd.zeroValue2
 t3:=Tryd.underlying3
 a3:=Tryd.isAgg3
 z3:=Tryd.sizeOf3
 v3:=Tryd.zeroValue3
 t4:=Tryd.underlying4
 a4:=Tryd.isAgg4
 z4:=Tryd.sizeOf4
 v4:=Tryd.zeroValue4
 t5:=Tryd.underlying5
 a5:=Tryd.isAgg5
 z5:=Tryd.sizeOf5
 v5:=Tryd.zeroValue5
 t9:=Tryd.underlying9
 a9:=Tryd.isAgg9
 z9:=Tryd.sizeOf9
 v9:=Tryd.zeroValue9
 t20:=Tryd.underlying20
 a20:=Tryd.isAgg20
 z20:=Tryd.sizeOf20
 v20:=Tryd.zeroValue20
 t21:=Tryd.underlying21
 a21:=Tryd.isAgg21
 z21:=Tryd.sizeOf21
 v21:=Tryd.zeroValue21
 t37:=Tryd.underlying22
 a37:=Tryd.isAgg22
 z37:=Tryd.sizeOf22
 v37:=Tryd.zeroValue22
 t46:=Tryd.underlying113
 a46:=Tryd.isAgg113
 z46:=Tryd.sizeOf113
 v46:=Tryd.zeroValue113
 t51:=Tryd.underlying116
 a51:=Tryd.isAgg116
 z51:=Tryd.sizeOf116
 v51:=Tryd.zeroValue116
 t53:=Tryd.underlying104
 a53:=Tryd.isAgg104
 z53:=Tryd.sizeOf104
 v53:=Tryd.zeroValue104
 t75:=Tryd.underlying81
 a75:=Tryd.isAgg81
 z75:=Tryd.sizeOf81
 v75:=Tryd.zeroValue81
 t76:=Tryd.underlying82
 a76:=Tryd.isAgg82
 z76:=Tryd.sizeOf82
 v76:=Tryd.zeroValue82
 t85:=Tryd.underlying120
 a85:=Tryd.isAgg120
 z85:=Tryd.sizeOf120
 v85:=Tryd.zeroValue120
 t127:=Tryd.underlying96
 a127:=Tryd.isAgg96
 z127:=Tryd.sizeOf96
 v127:=Tryd.zeroValue96
 t143:=Tryd.underlying141
 a143:=Tryd.isAgg141
 z143:=Tryd.sizeOf141
 v143:=Tryd.zeroValue141
 t145:=Tryd.underlying143
 a145:=Tryd.isAgg143
 z145:=Tryd.sizeOf143
 v145:=Tryd.zeroValue143
 t167:=Tryd.underlying119
 a167:=Tryd.isAgg119
 z167:=Tryd.sizeOf119
 v167:=Tryd.zeroValue119
 t168:=Tryd.underlying122
 a168:=Tryd.isAgg122
 z168:=Tryd.sizeOf122
 v168:=Tryd.zeroValue122
 t171:=Tryd.underlying103
 a171:=Tryd.isAgg103
 z171:=Tryd.sizeOf103
 v171:=Tryd.zeroValue103
 t173:=Tryd.underlying107
 a173:=Tryd.isAgg107
 z173:=Tryd.sizeOf107
 v173:=Tryd.zeroValue107
 t175:=Tryd.underlying132
 a175:=Tryd.isAgg132
 z175:=Tryd.sizeOf132
 v175:=Tryd.zeroValue132
 t210:=Tryd.underlying136
 a210:=Tryd.isAgg136
 z210:=Tryd.sizeOf136
 v210:=Tryd.zeroValue136
 t212:=Tryd.underlying115
 a212:=Tryd.isAgg115
 z212:=Tryd.sizeOf115
 v212:=Tryd.zeroValue115
 t213:=Tryd.underlying117
 a213:=Tryd.isAgg117
 z213:=Tryd.sizeOf117
 t232:=Tryd.underlying138
 a232:=Tryd.isAgg138
 z232:=Tryd.sizeOf138
 v232:=Tryd.zeroValue138
 t233:=Tryd.underlying139
 a233:=Tryd.isAgg139
 z233:=Tryd.sizeOf139
 v233:=Tryd.zeroValue139
 g15:=by kernel_rfl
 g16:=by kernel_rfl
 g17:=by kernel_rfl
 g18:=by kernel_rfl
 g19:=by kernel_rfl
 t80:=Tryd.underlying85
 a80:=Tryd.isAgg85
 z80:=Tryd.sizeOf85
 v80:=Tryd.zeroValue85
 i0:=by kernel_rfl
 i2:=by kernel_rfl
 i3:=by kernel_rfl
 i4:=by kernel_rfl
 i5:=by kernel_rfl
 i9:=by kernel_rfl
 i20:=by kernel_rfl
 i21:=by kernel_rfl
 i37:=by kernel_rfl
 i46:=by kernel_rfl
 i51:=by kernel_rfl
 i53:=by kernel_rfl
 i75:=by kernel_rfl
 i76:=by kernel_rfl
 i80:=by kernel_rfl
 i85:=by kernel_rfl
 i127:=by kernel_rfl
 i143:=by kernel_rfl
 i145:=by kernel_rfl
 i167:=by kernel_rfl
 i168:=by kernel_rfl
 i171:=by kernel_rfl
 i173:=by kernel_rfl
 i175:=by kernel_rfl
 i210:=by kernel_rfl
 i212:=by kernel_rfl
 i232:=by kernel_rfl
 i233:=by kernel_rfl
 m15:=by kernel_rfl
 m16:=by kernel_rfl
 m17:=by kernel_rfl
 m18:=by kernel_rfl
 m19:=by kernel_rfl
 c0:=by kernel_rfl
 c2:=by kernel_rfl
 c3:=by kernel_rfl
 c4:=by kernel_rfl
 c5:=by kernel_rfl
 c9:=by kernel_rfl
 c20:=by kernel_rfl
 c21:=by kernel_rfl
 c37:=by kernel_rfl
 c46:=by kernel_rfl
 c51:=by kernel_rfl
 c53:=by kernel_rfl
 c75:=by kernel_rfl
 c76:=by kernel_rfl
 c80:=by kernel_rfl
 c85:=by kernel_rfl
 c127:=by kernel_rfl
 c143:=by kernel_rfl
 c145:=by kernel_rfl
 c167:=by kernel_rfl
 c168:=by kernel_rfl
 c171:=by kernel_rfl
 c173:=by kernel_rfl
 c175:=by kernel_rfl
 c210:=by kernel_rfl
 c212:=by kernel_rfl
 c213:=by kernel_rfl
 c232:=by kernel_rfl
 c233:=by kernel_rfl }
open Go.RowKit in
theorem Tryd.strconv_Atoi_ok (s:ByteArray) (hmax:s.size<=9223372036854775806) (v:Int) (h:Lib.atoiAll s.data.toList=.ok v) (w:World) :
  Calls Tryd.prog 68 #[.string s] w fun e w'=>e=.returned (.tuple #[.int .i64 v,.nilIface])∧(w'=w∨∃ t,w'=Lib.bytesWorld w 5 t):=Any.strconv_Atoi_ok Tryd.laysC172 s hmax v h w
open Go.RowKit in
theorem Tryd.strconv_Atoi_syntax_var (s : ByteArray) (hlim : s.size ≤ 281474976710656) (h : Lib.atoiAll s.data.toList = Lib.NumEnd.syntax) (tp : TypeId) (p : Value) (w : World) (hvar : w.var? Tryd.prog "strconv.ErrSyntax" = some #[.iface tp p]) :
  Calls Tryd.prog 68 #[.string s] w fun e w'=>∃ N,e=.returned (.tuple #[.int .i64 0,.iface 122 (.pointer (some ⟨N,0,none⟩))])∧w.heap.size<=N∧w'.heap[N]?=some (.cells #[.string ⟨#[65,116,111,105]⟩,.string s,.iface tp p] 136 (0,0))∧Below w.heap.size w w':=Any.strconv_Atoi_syntax_var Tryd.laysC172 s hlim h tp p w hvar
open Go.RowKit in
theorem Tryd.strconv_Atoi_range_var (s : ByteArray) (hlim : s.size ≤ 281474976710656) (h : Lib.atoiAll s.data.toList = .range) (tp : TypeId) (p : Value) (w : World) (hvar : w.var? Tryd.prog "strconv.ErrRange" = some #[.iface tp p]) :
  Calls Tryd.prog 68 #[.string s] w fun e w'=>∃ N,e=.returned (.tuple #[.int .i64 (Lib.atoiSat s.data.toList),.iface 122 (.pointer (some ⟨N,0,none⟩))])∧w.heap.size<=N∧w'.heap[N]?=some (.cells #[.string ⟨#[65,116,111,105]⟩,.string s,.iface tp p] 136 (0,0))∧Below w.heap.size w w':=Any.strconv_Atoi_range_var Tryd.laysC172 s hlim h tp p w hvar
open Go.RowKit Go.Lib in
def Tryd.lays145_ren:Go.Shelf.Ren:=⟨fun | 145=>53 | 220=>62 | 219=>70 | 217=>80 | 225=>81 | 224=>82 | 267=>83 | 266=>95 | 314=>96 | n=>n,fun | 9=>9 | 4=>4 | 59=>86 | 3=>3 | 5=>5 | 46=>113 | 146=>125 | 51=>116 | n=>n,fun | 1=>0 | n=>n⟩
theorem Tryd.lays145:Go.Proofs.Lays.n145 Tryd.prog Tryd.lays145_ren:={
 mixed:=by kernel_rfl
 f145:=Tryd.func53.trans (congrArg some (by kernel_rfl))
 f217:=Tryd.func80.trans (congrArg some (by kernel_rfl))
 f219:=Tryd.func70.trans (congrArg some (by kernel_rfl))
 f220:=Tryd.func62.trans (congrArg some (by kernel_rfl))
 f224:=Tryd.func82.trans (congrArg some (by kernel_rfl))
 f225:=Tryd.func81.trans (congrArg some (by kernel_rfl))
 f266:=Tryd.func95.trans (congrArg some (by kernel_rfl))
 f267:=Tryd.func83.trans (congrArg some (by kernel_rfl))
 f314:=Tryd.func96.trans (congrArg some (by kernel_rfl))
 t3:=Tryd.underlying3
 a3:=Tryd.isAgg3
 z3:=Tryd.sizeOf3
 v3:=Tryd.zeroValue3
 t4:=Tryd.underlying4
 a4:=Tryd.isAgg4
 z4:=Tryd.sizeOf4
 v4:=Tryd.zeroValue4
 t5:=Tryd.underlying5
 a5:=Tryd.isAgg5
 z5:=Tryd.sizeOf5
 v5:=Tryd.zeroValue5
 t9:=Tryd.underlying9
 a9:=Tryd.isAgg9
 z9:=Tryd.sizeOf9
 v9:=Tryd.zeroValue9
 t46:=Tryd.underlying113
 a46:=Tryd.isAgg113
 z46:=Tryd.sizeOf113
 v46:=Tryd.zeroValue113
 t51:=Tryd.underlying116
 a51:=Tryd.isAgg116
 z51:=Tryd.sizeOf116
 v51:=Tryd.zeroValue116
 t59:=Tryd.underlying86
 a59:=Tryd.isAgg86
 z59:=Tryd.sizeOf86
 v59:=Tryd.zeroValue86
 t146:=Tryd.underlying125
 a146:=Tryd.isAgg125
 z146:=Tryd.sizeOf125
 v146:=Tryd.zeroValue125
 g1:=by kernel_rfl }
open Go.RowKit Go.Lib in
theorem Tryd.strings_Cut (s sep:ByteArray) (m:Int) (w:World) (hs:s.size < 4294967281) (hm:w.cell? ⟨0,0,none⟩=some (.int .i64 m)) :
  Calls Tryd.prog 53 #[.string s,.string sep] w fun e w'=>e=.returned (.tuple #[.string ⟨(Lib.cut s.data.toList sep.data.toList).1.toArray⟩,.string ⟨(Lib.cut s.data.toList sep.data.toList).2.1.toArray⟩,.bool (Lib.cut s.data.toList sep.data.toList).2.2])∧∃ n,w'=w.drewN n:=Any.strings_Cut Tryd.lays145 s sep m w hs hm
open Go.RowKit Go.Lib in
def Tryd.lays146_ren:Go.Shelf.Ren:=⟨fun | 146=>40 | 221=>58 | 268=>65 | 138=>66 | 143=>67 | 195=>75 | 197=>76 | 218=>77 | 219=>70 | 260=>89 | 217=>80 | 225=>81 | 224=>82 | 267=>83 | 266=>95 | 314=>96 | n=>n,fun | 9=>9 | 31=>64 | 3=>3 | 4=>4 | 0=>0 | 105=>109 | 21=>21 | 5=>5 | 46=>113 | 119=>128 | 139=>131 | 138=>130 | 146=>125 | 51=>116 | n=>n,fun | 1=>0 | 3=>2 | 4=>3 | n=>n⟩
theorem Tryd.lays146:Go.Proofs.Lays.n146 Tryd.prog Tryd.lays146_ren:={
 mixed:=by kernel_rfl
 f138:=Tryd.func66.trans (congrArg some (by kernel_rfl))
 f143:=Tryd.func67.trans (congrArg some (by kernel_rfl))
 f146:=Tryd.func40.trans (congrArg some (by kernel_rfl))
 f195:=Tryd.func75.trans (congrArg some (by kernel_rfl))
 f197:=Tryd.func76.trans (congrArg some (by kernel_rfl))
 f217:=Tryd.func80.trans (congrArg some (by kernel_rfl))
 f218:=Tryd.func77.trans (congrArg some (by kernel_rfl))
 f219:=Tryd.func70.trans (congrArg some (by kernel_rfl))
 f221:=Tryd.func58.trans (congrArg some (by kernel_rfl))
 f224:=Tryd.func82.trans (congrArg some (by kernel_rfl))
 f225:=Tryd.func81.trans (congrArg some (by kernel_rfl))
 f260:=Tryd.func89.trans (congrArg some (by kernel_rfl))
 f266:=Tryd.func95.trans (congrArg some (by kernel_rfl))
 f267:=Tryd.func83.trans (congrArg some (by kernel_rfl))
 f268:=Tryd.func65.trans (congrArg some (by kernel_rfl))
 f314:=Tryd.func96.trans (congrArg some (by kernel_rfl))
 t0:=Tryd.underlying0
 a0:=Tryd.isAgg0
 z0:=Tryd.sizeOf0
 v0:=Tryd.zeroValue0
 t3:=Tryd.underlying3
 a3:=Tryd.isAgg3
 z3:=Tryd.sizeOf3
 v3:=Tryd.zeroValue3
 t4:=Tryd.underlying4
 a4:=Tryd.isAgg4
 z4:=Tryd.sizeOf4
 v4:=Tryd.zeroValue4
 t5:=Tryd.underlying5
 a5:=Tryd.isAgg5
 z5:=Tryd.sizeOf5
 v5:=Tryd.zeroValue5
 t9:=Tryd.underlying9
 a9:=Tryd.isAgg9
 z9:=Tryd.sizeOf9
 v9:=Tryd.zeroValue9
 t21:=Tryd.underlying21
 a21:=Tryd.isAgg21
 z21:=Tryd.sizeOf21
 v21:=Tryd.zeroValue21
 t31:=Tryd.underlying64
 a31:=Tryd.isAgg64
 z31:=Tryd.sizeOf64
 v31:=Tryd.zeroValue64
 t46:=Tryd.underlying113
 a46:=Tryd.isAgg113
 z46:=Tryd.sizeOf113
 v46:=Tryd.zeroValue113
 t51:=Tryd.underlying116
 a51:=Tryd.isAgg116
 z51:=Tryd.sizeOf116
 v51:=Tryd.zeroValue116
 t105:=Tryd.underlying109
 a105:=Tryd.isAgg109
 z105:=Tryd.sizeOf109
 v105:=Tryd.zeroValue109
 t119:=Tryd.underlying128
 a119:=Tryd.isAgg128
 z119:=Tryd.sizeOf128
 t138:=Tryd.underlying130
 a138:=Tryd.isAgg130
 z138:=Tryd.sizeOf130
 v138:=Tryd.zeroValue130
 t139:=Tryd.underlying131
 a139:=Tryd.isAgg131
 z139:=Tryd.sizeOf131
 v139:=Tryd.zeroValue131
 t146:=Tryd.underlying125
 a146:=Tryd.isAgg125
 z146:=Tryd.sizeOf125
 v146:=Tryd.zeroValue125
 g1:=by kernel_rfl
 g3:=by kernel_rfl
 g4:=by kernel_rfl }
open Go.RowKit Go.Lib in
theorem Tryd.strings_Split (s sep:ByteArray) (m:Int) (w:World) (hs:s.size < 4294967281) (hm:w.cell? ⟨0,0,none⟩=some (.int .i64 m)) (h1:1<=sep.size) :
  Calls Tryd.prog 40 #[.string s,.string sep] w fun e w' =>
   e=.returned (.slice (some ⟨w.heap.size,0,none⟩) (Lib.countB s sep+1) (Lib.countB s sep+1))∧w'=w.alloc (.cells ((Lib.splitB sep 0 (Lib.countB s sep) s).map Value.string).toArray 9):=Any.strings_Split Tryd.lays146 (by kernel_rfl) s sep m w hs hm h1
end Go.Proofs
namespace Go.Proofs.YticccnkanihpnaaDoor
set_option linter.unusedVariables false
open Go.RowKit
theorem dec_num:∀ n,Lib.decDigits n=numL n:=by
 intro n
 induction n using Nat.strongRecOn with
 | _ n ih =>
  rw [Lib.decDigits,numL]
  by_cases h:n < 10
  ·rw [dif_pos h,if_pos h,dig8,Nat.mod_eq_of_lt h]
  ·rw [dif_neg h,if_neg h,ih (n / 10) (by omega),dig8]
theorem itoa_num (n:Nat):Lib.itoa (n:Int)=numL n:=by
 rw [Lib.itoa,if_neg (by omega),Int.toNat_natCast,dec_num]
theorem below_grow (w:World) (k:Nat) (os:Array Obj):Below w.heap.size w (Sort.grow (w.drewN k) os) :=
 ⟨rfl,rfl,rfl,by simp [Sort.grow,World.drewN],fun j hj=>by
   show ((w.drewN k).heap++os)[j]?=w.heap[j]?
   exact Array.getElem?_append_left hj⟩
theorem c_itoaSmall (n:Nat) (w:World) (hn:n < 100) :
  Calls Tryd.prog 36 #[.int .i64 (n:Int)] w fun e w'=>e=.returned (.string (bs (numL n)))∧w=w' :=
 (Tryd.strconv_Itoa_small n hn w).mono fun e w' ⟨he,hw⟩=>by
   rw [dec_num] at he
   exact ⟨he,hw.symm⟩
theorem c_atoi (l:List UInt8) (hl:l.length<=140737488355328) (w:World) (hV:LV w w.heap.size) :
  Calls Tryd.prog 68 #[.string (bs l)] w fun e w'=>((∃ v,Lib.atoiAll l=.ok v∧e=.returned (.tuple #[.int .i64 v,.nilIface]))∨((∀ v,Lib.atoiAll l≠.ok v)∧∃ v b,e=.returned (.tuple #[.int .i64 v,.iface 122 (.pointer (some ⟨b,0,none⟩))])))∧Below w.heap.size w w':=by
 have hsz:=bs_size l
 have hd:(bs l).data.toList=l:=rfl
 obtain ⟨⟨-,t1,p1,v1⟩,-,t2,p2,v2⟩:=hV.2.1
 cases h:Lib.atoiAll l with
 | ok v =>
  refine (Tryd.strconv_Atoi_ok (bs l) (by omega) v (by rw [hd];exact h) w).mono fun e w' ⟨he,hw⟩=>⟨.inl ⟨v,rfl,he⟩,?_⟩
  rcases hw with rfl | ⟨t,rfl⟩
  ·exact Below.refl _ _
  ·exact Lib.bytesWorld_below _ _ _
 | range =>
  exact (Tryd.strconv_Atoi_range_var (bs l) (by omega) (by rw [hd];exact h) t2 p2 w v2).mono fun e w' ⟨b,he,_,_,hb⟩=>⟨.inr ⟨fun v hv=>by simp at hv,_,b,he⟩,hb⟩
 | _ =>
  exact (Tryd.strconv_Atoi_syntax_var (bs l) (by omega) (by rw [hd];exact h) t1 p1 w v1).mono fun e w' ⟨b,he,_,_,hb⟩=>⟨.inr ⟨fun v hv=>by simp at hv,_,b,he⟩,hb⟩
end Go.Proofs.YticccnkanihpnaaDoor
namespace Go.Proofs.YticccnkanihpnaaDoor
set_option linter.unusedVariables false
open Go.RowKit
attribute [local go_sem ↓] Go.wp_at_zero Go.wp_at_succ
def tailTo (xs:List Int):Nat->List UInt8
 | 0=>[]
 | k+1=>tailTo xs k++([32]++numL (Z xs k).toNat)
theorem formVal_at {k:Nat} (hk:k<=4):formVal (k:Int)=.agg #[.string (bs (wordJ k)),.int .i64 (numJ k:Int)]∧numJ k<=2∧(wordJ k).length<=5:=by
 have hk':k=0∨k=1∨k=2∨k=3∨k=4:=by omega
 rcases hk' with rfl | rfl | rfl | rfl | rfl <;> exact ⟨rfl,by decide,by decide⟩
theorem formOk_range {k a b:Int} (h:formOk k a b=true):0<=k∧k<=4:=by
 simp only [formOk,Bool.or_eq_true,Bool.and_eq_true,decide_eq_true_eq] at h
 omega
theorem deedL_form {k a b:Int} (h:formOk k a b=false):deedL ⟨k,a,b⟩=[]:=by
 simp only [formOk,Bool.or_eq_false_iff,Bool.and_eq_false_iff,decide_eq_false_iff_not] at h
 exact deedL_none (by omega) (by omega) (by omega) (by omega) (by omega)
theorem deedL_in {k:Nat} {a b:Int} (h:formOk k a b=true) (hn:∀ j,j < numJ k->0<=Z [a,b] j∧Z [a,b] j<=99):deedL ⟨k,a,b⟩=wordJ k++tailTo [a,b] (numJ k):=by
 have hr:=formOk_range h
 have hk':k=0∨k=1∨k=2∨k=3∨k=4:=by omega
 simp only [formOk,Bool.or_eq_true,Bool.and_eq_true,decide_eq_true_eq] at h
 rcases hk' with rfl | rfl | rfl | rfl | rfl
 ·have h0:=hn 0 (by decide)
  have h1:=hn 1 (by decide)
  have e:=deedL_come (a:=a) (b:=b) h0 h1
  refine Eq.trans e ?_
  simp [wordJ,numJ,tailTo,Z]
 ·obtain ⟨rfl,rfl⟩:a=0∧b=0:=by omega
  decide
 ·have h0:=hn 0 (by decide)
  obtain rfl:b=0:=by omega
  refine Eq.trans (deedL_need h0) ?_
  simp [wordJ,numJ,tailTo,Z]
 ·have h0:=hn 0 (by decide)
  obtain rfl:b=0:=by omega
  refine Eq.trans (deedL_later h0) ?_
  simp [wordJ,numJ,tailTo,Z]
 ·obtain ⟨rfl,rfl⟩:a=0∧b=0:=by omega
  decide
theorem deedL_out {k:Nat} {a b:Int} {j:Nat} (hj:j < numJ k) (hk:k<=4) (hn:¬ (0<=Z [a,b] j∧Z [a,b] j<=99)):deedL ⟨k,a,b⟩=[]:=by
 have hk':k=0∨k=1∨k=2∨k=3∨k=4:=by omega
 have h0:Z [a,b] 0=a:=rfl
 have h1:Z [a,b] 1=b:=rfl
 rcases hk' with rfl | rfl | rfl | rfl | rfl
 ·have hj':j=0∨j=1:=by simp only [numJ] at hj;omega
  rcases hj' with rfl | rfl
  ·rw [h0] at hn
   exact deedL_none (by omega) (by omega) (by omega) (by omega) (by omega)
  ·rw [h1] at hn
   exact deedL_none (by omega) (by omega) (by omega) (by omega) (by omega)
 ·simp [numJ] at hj
 ·obtain rfl:j=0:=by simp only [numJ] at hj;omega
  rw [h0] at hn
  exact deedL_none (by omega) (by omega) (by omega) (by omega) (by omega)
 ·obtain rfl:j=0:=by simp only [numJ] at hj;omega
  rw [h0] at hn
  exact deedL_none (by omega) (by omega) (by omega) (by omega) (by omega)
 ·simp [numJ] at hj
theorem tailTo_len {a b:Int} {k:Nat} (h:∀ j,j < k->0<=Z [a,b] j∧Z [a,b] j<=99):(tailTo [a,b] k).length<=3 * k:=by
 induction k with
 | zero=>simp [tailTo]
 | succ k ih =>
  have h1:=ih (fun j hj=>h j (by omega))
  have h2:=h k (by omega)
  have h3:=numL_len 1 (Z [a,b] k).toNat (by omega)
  simp only [tailTo,List.length_append,List.length_singleton]
  omega
set_option maxRecDepth 8000 in
set_option maxHeartbeats 4000000 in
theorem c_iDeedText (k a b:Int) (w:World) :
  Calls Tryd.prog 11 #[.agg #[.int .i64 k,.int .i64 a,.int .i64 b]] w fun e w'=>e=.returned (.string (bs (deedL ⟨k,a,b⟩)))∧Below w.heap.size w w':=by
 obtain ⟨w0,hw0⟩:∃ w0,w.alloc (.cells #[.int .i64 k,.int .i64 a,.int .i64 b] 24)=w0:=⟨_,rfl⟩
 have hz0:w.heap.size < w0.heap.size:=by rw [<- hw0];simp
 have hb0:Below w.heap.size w w0:=by rw [<- hw0];exact (Below.refl _ w).alloc (Nat.le_refl _) _
 have bD:w0.heap[w.heap.size]?=some (.cells #[.int .i64 k,.int .i64 a,.int .i64 b] 24 (0,0)):=by rw [<- hw0];exact heap_alloc_new _ _
 have HS:=Lib.hid (fun (W':World) (hb:Below w0.heap.size w0 W')=>show W'.cell? ⟨w.heap.size,0,none⟩=some (.int .i64 k)∧W'.cell? ⟨w.heap.size,1,none⟩=some (.int .i64 a)∧W'.cell? ⟨w.heap.size,2,none⟩=some (.int .i64 b) from by
  have b:=(hb.block w.heap.size hz0).trans bD
  exact ⟨cell_of_row _ w.heap.size 0 _ _ _ b,cell_of_row _ w.heap.size 1 _ _ _ b,cell_of_row _ w.heap.size 2 _ _ _ b⟩)
 have HF:=Lib.hid (fun W=>c_form k a b W)
 obtain ⟨c0,c1,c2⟩:=HS.out _ (Below.refl _ w0)
 clear bD
 cases ho:formOk k a b with
 | false =>
  have HO:=Lib.hid ho
  have HV:=Lib.hid (deedL_form ho)
  clear ho
  go_enter Tryd.func11,Tryd.ntmps11
  go_wp2_with fail
  refine (HF.out _).mono ?_
  rintro e w1 ⟨⟨f,rfl,-,W,n,rfl⟩,hb1⟩
  rw [HO.out]
  clear c0 c1 c2 hw0
  go_wp2_with fail
  go_ret
  exact ⟨by rw [HV.out];rfl,hb0.trans ((hb1.alloc hb1.size _).mono (by omega))⟩
 | true =>
  have hr:=formOk_range ho
  obtain ⟨j,rfl⟩:∃ j:Nat,k=(j:Int):=⟨k.toNat,by omega⟩
  have HO:=Lib.hid ho
  obtain ⟨hfv,hn2,hw5⟩:=formVal_at (k:=j) (by omega)
  have HFV:=Lib.hid hfv
  have HIn:=Lib.hid (fun hn=>deedL_in (k:=j) (a:=a) (b:=b) ho hn)
  have HOut:=Lib.hid (fun (i:Nat) (hi:i < numJ j) hn=>deedL_out (k:=j) (a:=a) (b:=b) hi (by omega) hn)
  have HR:=Lib.hid hr
  clear ho hfv hr
  generalize hW:wordJ j=W at *
  generalize hN:numJ j=n at *
  clear hW hN
  have p1:(0:Int)<=(n:Int):=by omega
  have p2:(n:Int)<=2:=by omega
  go_enter Tryd.func11,Tryd.ntmps11
  go_wp2_with fail
  refine (HF.out _).mono ?_
  rintro e w1 ⟨⟨f,rfl,hf,-⟩,hb1⟩
  rw [HO.out,hf HR.out,HFV.out]
  clear hf c0 c1 c2 hw0
  go_wp2_with fail
  obtain ⟨w2,hw2⟩:∃ w2,w1.alloc (.cells #[.string (bs W),.int .i64 (n:Int)] 54)=w2:=⟨_,rfl⟩
  have hb2:Below w1.heap.size w1 w2:=by rw [<- hw2];exact (Below.refl _ w1).alloc (Nat.le_refl _) _
  have bG:w2.heap[w1.heap.size]?=some (.cells #[.string (bs W),.int .i64 (n:Int)] 54 (0,0)):=by rw [<- hw2];exact heap_alloc_new _ _
  have hz2:w1.heap.size < w2.heap.size:=by rw [<- hw2];simp
  rw [hw2]
  have hx2:=hb1.trans (hb2.mono hb1.size)
  have HG:=Lib.hid (fun (W':World) (hb:Below w2.heap.size w2 W')=>show W'.cell? ⟨w.heap.size,0,none⟩=some (.int .i64 (j:Int))∧W'.cell? ⟨w.heap.size,1,none⟩=some (.int .i64 a)∧W'.cell? ⟨w.heap.size,2,none⟩=some (.int .i64 b)∧W'.cell? ⟨w1.heap.size,0,none⟩=some (.string (bs W))∧W'.cell? ⟨w1.heap.size,1,none⟩=some (.int .i64 (n:Int)) from by
   have b:=(hb.block w1.heap.size hz2).trans bG
   obtain ⟨s0,s1,s2⟩:=HS.out W' (hx2.trans (hb.mono hx2.size))
   exact ⟨s0,s1,s2,cell_of_row _ w1.heap.size 0 _ _ _ b,cell_of_row _ w1.heap.size 1 _ _ _ b⟩)
  obtain ⟨g0,g1,g2,g3,g4⟩:=HG.out _ (Below.refl _ w2)
  have hd2:Below w2.heap.size w2 w2.drew:=(Below.refl _ w2).drew
  have HX:=Lib.hid (hb0.trans (hx2.mono (show w.heap.size<=w0.heap.size by omega)))
  clear bG hb2 hb1 hw2 hx2
  go_region_held3 (fun W'=>W'.cell? ⟨w.heap.size,0,none⟩=some (.int .i64 (j:Int))∧W'.cell? ⟨w.heap.size,1,none⟩=some (.int .i64 a)∧W'.cell? ⟨w.heap.size,2,none⟩=some (.int .i64 b)∧W'.cell? ⟨w1.heap.size,0,none⟩=some (.string (bs W))∧W'.cell? ⟨w1.heap.size,1,none⟩=some (.int .i64 (n:Int)))
   (first
     | exact HG.out _ hx6
     | go_keep)
   (first
     | (go_at_call 34;refine (c_numbers _ _ _ _).mono ?_;rintro e w6 ⟨g,rfl,e0,e1,hg,hb6⟩;have hx6:Below w2.heap.size w2 w6:=hd2.trans hb6)
     | fail)
  have HC:=Lib.hid (fun (i:Nat) (hi:i < 2)=>show w6.cell? ⟨g,i,none⟩=some (.int .i64 (Z [a,b] i)) by
   have hi':i=0∨i=1:=by omega
   rcases hi' with rfl | rfl
   ·exact e0
   ·exact e1)
  have HY:=Lib.hid (HX.out.trans (hx6.mono HX.out.size))
  clear g0 g1 g2 g3 g4 e0 e1 hx6 hb6 hd2
  go_wp2_with fail
  go_loopw [5,23] (fun s i wr=>∃ q:Nat,q<=n∧i=.int .i64 (q:Int)∧s=.string (bs (W++tailTo [a,b] q))∧Hid (∀ i,i < q->0<=Z [a,b] i∧Z [a,b] i<=99)∧Below w6.heap.size w6 wr) (fun _ i _=>n - (intOf i).toNat)
  case atStart=>exact ⟨0,by omega,rfl,by simp [tailTo],Lib.hid (fun i hi=>by omega),Below.refl _ _⟩
  case round =>
   obtain ⟨q,hq,rfl,rfl,HN,hb⟩:=hrel
   have hsz:=hb.size
   have hyw:=HY.out.trans (hb.mono HY.out.size)
   by_cases hlt:q < n
   ·have d1:=(hb.cell (p:=⟨g,q,none⟩) hg).trans (HC.out q (by omega))
    have q1:(0:Int)<=(q:Int):=by omega
    have q2:(q:Int) < (n:Int):=by omega
    have hlen:=tailTo_len HN.out
    by_cases hz:0<=Z [a,b] q∧Z [a,b] q<=99
    ·have HD:=Lib.hid (decide_eq_true hz)
     have hn1:=numL_len 1 (Z [a,b] q).toNat (by omega)
     have HIt:=Lib.hid (fun W'=>show Calls Tryd.prog 36 #[.int .i64 (Z [a,b] q)] W' fun e w'=>e=.returned (.string (bs (numL (Z [a,b] q).toNat)))∧W'=w' from by
      have K:=c_itoaSmall (Z [a,b] q).toNat W' (by omega)
      rwa [show (((Z [a,b] q).toNat:Nat):Int)=Z [a,b] q by omega] at K)
     have y1:¬ (9223372036854775807 < 1+(bs (numL (Z [a,b] q).toNat)).size):=by rw [bs_size];omega
     have y2:¬ (9223372036854775807 < (bs (W++tailTo [a,b] q)).size+(1+(bs (numL (Z [a,b] q).toNat)).size)):=by rw [bs_size,bs_size,List.length_append];omega
     have HV:=Lib.hid (show bs (W++tailTo [a,b] q)++(⟨#[32]⟩++bs (numL (Z [a,b] q).toNat))=bs (W++tailTo [a,b] (q+1)) by
      rw [show (⟨#[32]⟩:ByteArray)=bs [32] from rfl,bs_append,bs_append];simp [tailTo])
     have HN2:=Lib.hid (show ∀ i,i < q+1->0<=Z [a,b] i∧Z [a,b] i<=99 from fun i hi=>by
      rcases Nat.lt_succ_iff_lt_or_eq.1 hi with h | rfl
      ·exact HN.out i h
      ·exact hz)
     clear hz hn1 hlen
     go_wp2_with fail
     refine (c_within _ _ _ _).mono ?_
     rintro e w' ⟨rfl,rfl⟩
     rw [HD.out]
     go_wp2_with fail
     refine (HIt.out _).mono ?_
     rintro e w' ⟨rfl,rfl⟩
     go_wp2_with fail
     go_roundw
     case rel=>exact ⟨q+1,by omega,by go_num,by rw [<- HV.out],HN2,hb⟩
     case measure=>simp [intOf];omega
    ·have HD:=Lib.hid (decide_eq_false hz)
     have HV:=Lib.hid (HOut.out q hlt hz)
     clear hz hlen
     go_wp2_with fail
     refine (c_within _ _ _ _).mono ?_
     rintro e w' ⟨rfl,rfl⟩
     rw [HD.out]
     go_wp2_with fail
     go_ret
     exact ⟨by rw [HV.out];rfl,hyw⟩
   ·have q2:¬ (q:Int) < (n:Int):=by omega
    obtain rfl:q=n:=by omega
    have HV:=Lib.hid (HIn.out HN.out)
    go_wp2_with fail
    go_ret
    exact ⟨by rw [HV.out];rfl,hyw⟩
theorem atoi_bd {l:List UInt8} {v:Int} (h:Lib.atoiAll l=.ok v):-9223372036854775808<=v∧v<=9223372036854775807:=Lib.atoiAll_bounds h
theorem num_read {l:List UInt8} (h6:l.length<=6):(digOk l=true->Lib.atoiAll l=.ok (valN l:Int)∧Lib.itoa (valN l:Int)=l)∧(digOk l=false->∀ v,Lib.atoiAll l=.ok v->0<=v->Lib.itoa v≠l):=by
 rw [Lib.atoiAll_short l (by omega)]
 refine ⟨fun h=>?_,fun h v hv h0 he=>?_⟩
 ·obtain ⟨h1,h2,h3⟩:=digOk_parts h
  have hne:l≠[]:=fun e=>by subst e;simp at h1
  rw [atoi_val hne h3]
  exact ⟨rfl,by rw [itoa_num];exact num_of _ l rfl hne h3 h2⟩
 ·obtain ⟨n,rfl⟩:=Int.eq_ofNat_of_zero_le h0
  rw [itoa_num] at he
  have hlt:n < 1000000:=by
   have hl:(numL n).length<=6:=by rw [he];exact h6
   refine Nat.lt_of_not_le fun hge=>?_
   rw [numL_more (by omega),numL_more (by omega),numL_more (by omega),numL_more (by omega),numL_more (by omega),numL_more (by omega)] at hl
   have:=numL_ne (n / 10 / 10 / 10 / 10 / 10 / 10)
   simp at hl
   exact absurd hl (by intro e;rw [e] at this;simp at this)
  have:=digL_num hlt
  rw [he,digL,if_neg (by simp [h])] at this
  omega
def okN (l:List UInt8) (d:Nat):Bool:=digOk l && decide (l.length<=d)
def numV (l:List UInt8) (d:Nat):Value:=.tuple #[.int .i64 (if okN l d=true then (valN l:Int) else 0),.bool (okN l d)]
theorem numV_no {l:List UInt8} {d:Nat} (h:okN l d=false):numV l d=.tuple #[.int .i64 0,.bool false]:=by simp [numV,h]
theorem numV_yes {l:List UInt8} {d:Nat} (h:okN l d=true):numV l d=.tuple #[.int .i64 (valN l:Int),.bool true]:=by simp [numV,h]
set_option maxHeartbeats 1000000 in
theorem c_readNumber (l:List UInt8) (d:Nat) (hd6:d<=6) (hl:l.length<=100000000) (w:World) (hV:LV w w.heap.size) :
  Calls Tryd.prog 59 #[.string (bs l),.int .i64 (d:Int)] w fun e w'=>e=.returned (numV l d)∧Below w.heap.size w w':=by
 have hsz:=bs_size l
 by_cases h6:1<=l.length∧l.length<=d
 ·have q1:decide (1<=((bs l).size:Int)∧((bs l).size:Int)<=(d:Int))=true:=decide_eq_true (by rw [hsz];omega)
  have hdk:okN l d=digOk l:=by simp [okN,h6.2]
  obtain ⟨R1,R2⟩:=num_read (l:=l) (by omega)
  have HA:=Lib.hid (c_atoi l (by omega) w hV)
  have HB:=Lib.hid (fun v h=>atoi_bd (l:=l) (v:=v) h)
  have HI:=Lib.hid (fun (n:Int) (W:World) (h:-9223372036854775808<=n∧n<=9223372036854775807) (hb:Below w.heap.size w W)=>Tryd.strconv_Itoa n h.1 h.2 W (hV.at hb).1.2)
  have HR1:=Lib.hid R1
  have HR2:=Lib.hid R2
  have HQ:=Lib.hid q1
  clear R1 R2 hV hsz q1
  go_enter Tryd.func59,Tryd.ntmps59
  go_wp2_with fail
  refine (c_within _ _ _ _).mono ?_
  rintro e w' ⟨rfl,rfl⟩
  rw [HQ.out]
  go_wp2_with fail
  refine HA.out.mono ?_
  rintro e w1 ⟨(⟨v,hv,rfl⟩ | ⟨hn,v,b,rfl⟩),hb1⟩
  ·have hbd:=HB.out v hv
   have HI1:=Lib.hid (HI.out v w1 hbd hb1)
   have HX:=Lib.hid (fun w2 (h:Below w1.heap.size w1 w2)=>hb1.trans (h.mono hb1.size))
   have heq:∀ x:List UInt8,(x == (bs l).toList)=decide (x=l):=fun x=>by
    rw [bs_list]
    cases h:(x == l) with
    | true=>rw [decide_eq_true (eq_of_beq h)]
    | false=>rw [decide_eq_false (fun e=>by rw [e] at h;simp at h)]
   have hne:=heq (Lib.itoa v)
   by_cases h0:v < 0
   ·have hd:okN l d=false:=by
     rw [hdk]
     cases h:digOk l with
     | false=>rfl
     | true=>have:=(HR1.out h).1;rw [hv] at this;injection this with e;omega
    have HD:=Lib.hid (numV_no hd)
    clear hbd heq hd hne hdk
    go_wp2_with fail
    go_ret2
    exact ⟨by rw [HD.out];rfl,hb1⟩
   ·by_cases hI:Lib.itoa v=l
    ·rw [decide_eq_true hI] at hne
     have hd:okN l d=true:=by
      rw [hdk]
      cases h:digOk l with
      | true=>rfl
      | false=>exact absurd hI (HR2.out h v hv (by omega))
     have hvl:v=(valN l:Int):=by have:=(HR1.out (by rw [<- hdk];exact hd)).1;rw [hv] at this;injection this
     have HD:=Lib.hid (show numV l d=.tuple #[.int .i64 v,.bool true] by rw [numV_yes hd,hvl])
     clear hbd hb1 heq hI hd hvl hdk
     go_wp2_with fail
     refine HI1.out.mono ?_
     rintro e w2 ⟨rfl,k,os,hw2⟩
     have hb2:Below w1.heap.size w1 w2:=by rw [hw2];exact below_grow w1 k os
     clear hw2
     go_wp2_with fail
     go_ret2
     exact ⟨by rw [HD.out];rfl,HX.out _ hb2⟩
    ·rw [decide_eq_false hI] at hne
     have hd:okN l d=false:=by
      rw [hdk]
      cases h:digOk l with
      | false=>rfl
      | true =>
       have h2:=HR1.out h
       have e:v=(valN l:Int):=by have:=h2.1;rw [hv] at this;injection this
       exact absurd (by rw [e];exact h2.2) hI
     have HD:=Lib.hid (numV_no hd)
     clear hbd hb1 heq hI hd hdk
     go_wp2_with fail
     refine HI1.out.mono ?_
     rintro e w2 ⟨rfl,k,os,hw2⟩
     have hb2:Below w1.heap.size w1 w2:=by rw [hw2];exact below_grow w1 k os
     clear hw2
     go_wp2_with fail
     go_ret2
     exact ⟨by rw [HD.out];rfl,HX.out _ hb2⟩
  ·have hd:okN l d=false:=by
    rw [hdk]
    cases h:digOk l with
    | false=>rfl
    | true=>exact absurd (HR1.out h).1 (hn _)
   have HD:=Lib.hid (numV_no hd)
   clear hd hn hdk
   go_wp2_with fail
   go_ret2
   exact ⟨by rw [HD.out];rfl,hb1⟩
 ·have q1:decide (1<=((bs l).size:Int)∧((bs l).size:Int)<=(d:Int))=false:=decide_eq_false (by rw [hsz];omega)
  have hd:okN l d=false:=by
   cases h:okN l d with
   | false=>rfl
   | true =>
    simp only [okN,Bool.and_eq_true,decide_eq_true_eq] at h
    have:=(digOk_parts h.1).1
    omega
  have HD:=Lib.hid (numV_no hd)
  have HQ:=Lib.hid q1
  clear q1 hd h6 hsz
  go_enter Tryd.func59,Tryd.ntmps59
  go_wp2_with fail
  refine (c_within _ _ _ _).mono ?_
  rintro e w' ⟨rfl,rfl⟩
  rw [HQ.out]
  go_wp2_with fail
  go_ret2
  exact ⟨by rw [HD.out];rfl,Below.refl _ _⟩
end Go.Proofs.YticccnkanihpnaaDoor
namespace Go.Proofs.YticccnkanihpnaaDoor
set_option linter.unusedVariables false
open Go.RowKit
attribute [local go_sem ↓] Go.wp_at_zero Go.wp_at_succ
theorem split_bs (c:UInt8) (l:List UInt8):Lib.splitB ⟨#[c]⟩ 0 (Lib.countB (bs l) ⟨#[c]⟩) (bs l)=(cutL c l).map bs:=by
 rw [show cutL c l=cutL c (bs l).data.toList from rfl,<- splitB_cut,List.map_map]
 exact (List.map_id _).symm
theorem ZS_get {xs:List (List UInt8)} {k:Nat} (h:k < xs.length):ZS xs k=xs[k]:=by simp [ZS,h]
theorem c_split (l:List UInt8) (hl:l.length<=100000000) (w:World) (hV:LV w w.heap.size) :
  Calls Tryd.prog 40 #[.string (bs l),.string ⟨#[32]⟩] w fun e w'=>e=.returned (.slice (some ⟨w.heap.size,0,none⟩) (cutL 32 l).length (cutL 32 l).length)∧Ss w' w'.heap.size (some ⟨w.heap.size,0,none⟩) (cutL 32 l)∧Below w.heap.size w w':=by
 obtain ⟨-,m,hm⟩:=hV.2.2
 refine (Tryd.strings_Split (bs l) ⟨#[32]⟩ m w (by rw [bs_size];omega) hm (by decide)).mono ?_
 rintro e w' ⟨he,hw⟩
 have hn:Lib.countB (bs l) ⟨#[32]⟩+1=(cutL 32 l).length:=splitB_len 32 (bs l)
 rw [hn] at he
 rw [split_bs] at hw
 refine ⟨he,?_,by rw [hw];exact (Below.refl _ w).alloc (Nat.le_refl _) _⟩
 intro hp
 refine ⟨w.heap.size,0,rfl,by rw [hw];simp,fun k hk=>?_⟩
 rw [hw,Nat.zero_add,cell_of_row _ w.heap.size k _ _ _ (heap_alloc_new _ _)]
 simp [ZS_get hk,hk]
def valsN (ws:List (List UInt8)):List Int:=ws.map fun x=>(valN x:Int)
def namesOk (ws:List (List UInt8)) (n:Nat):Bool:=decide (ws.length=n) && ws.all dig2
theorem valsN_take {ws:List (List UInt8)} {k:Nat} (h:k < ws.length):valsN (ws.take (k+1))=valsN (ws.take k)++[(valN (ZS ws k):Int)]:=by
 rw [ZS_get h,<- List.take_append_getElem h,valsN,valsN,List.map_append];rfl
theorem all2_bad {ws:List (List UInt8)} {k:Nat} (hk:k < ws.length) (h:dig2 (ZS ws k)=false):ws.all dig2=false:=by
 cases e:ws.all dig2 with
 | false=>rfl
 | true=>have:=List.all_eq_true.1 e _ (List.getElem_mem hk);rw [<- ZS_get hk,h] at this;cases this
theorem all2_to {ws:List (List UInt8)} (h:∀ k,k < ws.length->dig2 (ZS ws k)=true):ws.all dig2=true:=List.all_eq_true.2 (fun x hx=>by
 obtain ⟨k,hk,rfl⟩:=List.getElem_of_mem hx
 rw [<- ZS_get hk];exact h k hk)
set_option maxHeartbeats 4000000 in
theorem c_readNumbers (ws:List (List UInt8)) (W:ByteArray) (n:Nat) (A:Option Addr) (c:Nat) (w:World) (hA:Ss w w.heap.size A ws) (hn:ws.length<=1000000000) (hl:∀ k,k < ws.length->(ZS ws k).length<=100000000) (hV:LV w w.heap.size) :
  Calls Tryd.prog 42 #[.agg #[.string W,.int .i64 (n:Int)],.slice A ws.length c] w fun e w'=>(∃ v,e=.returned (.tuple #[v,.bool (namesOk ws n)])∧(namesOk ws n=true->IO w' w.heap.size v (valsN ws)))∧Below w.heap.size w w':=by
 by_cases hq:ws.length=n
 ·subst hq
  have HNo:=Lib.hid (show ws.all dig2=false->namesOk ws ws.length=false from fun h=>by simp [namesOk,h])
  have HYes:=Lib.hid (show ws.all dig2=true->namesOk ws ws.length=true from fun h=>by simp [namesOk,h])
  have HA:=Lib.hid hA
  have HLn:=Lib.hid hl
  have HV:=Lib.hid hV
  have p0:((ws.length:Int) != (ws.length:Int))=false:=by simp
  have hb0:Below w.heap.size w (w.alloc (.cells #[.string W,.int .i64 (ws.length:Int)] 54)):=by (repeat (first | exact rfl | exact Below.refl _ _ | (with_reducible refine Below.drew ?_) | (with_reducible refine Below.drewN ?_ _) | (with_reducible refine Below.alloc ?_ ?_ _) | (with_reducible refine Below.setCell ?_ ?_ _) | (show _<=_;focus (first | omega | (simp;done) | (simp;omega)))))
  clear hA hl hV
  go_enter Tryd.func42,Tryd.ntmps42
  go_wp2_with fail
  go_loopw [6,18] (fun o i wr=>∃ k:Nat,k<=ws.length∧i=.int .i64 k∧Hid (∀ j,j < k->dig2 (ZS ws j)=true)∧IO wr w.heap.size o (valsN (ws.take k))∧Below w.heap.size w wr)
   (fun _ i _=>ws.length - (intOf i).toNat)
  case atStart=>exact ⟨0,by omega,rfl,Lib.hid (fun j hj=>by omega),IO.nil _ _,hb0⟩
  case round =>
   obtain ⟨k,hk,rfl,HN,hown,hb⟩:=hrel
   have hsz:=hb.size
   by_cases hlt:k < ws.length
   ·obtain ⟨b,off,rfl,hlb,hc⟩:=HA.out (by omega)
    have c1:=(hb.cell (p:=⟨b,off+k,none⟩) hlb).trans (hc k hlt)
    have HK:=Lib.hid (c_readNumber (ZS ws k) 2 (by omega) (HLn.out k hlt) wr (HV.out.at hb))
    have hvl:(valsN (ws.take k)).length=k:=by rw [valsN,List.length_map,List.length_take];omega
    have HT:=Lib.hid (valsN_take hlt)
    have HOwn:=Lib.hid hown
    clear hc hown
    cases hz:dig2 (ZS ws k) with
    | false =>
     have HB:=Lib.hid (HNo.out (all2_bad hlt hz))
     have HZ:=Lib.hid (numV_no (l:=ZS ws k) (d:=2) hz)
     clear hz
     go_wp2_with fail
     refine HK.out.mono ?_
     rintro e w5 ⟨rfl,hb5⟩
     rw [HZ.out]
     go_wp2_with fail
     go_ret2
     exact ⟨⟨.slice none 0 0,by rw [HB.out];rfl,fun h=>by rw [HB.out] at h;cases h⟩,hb.trans (hb5.mono hsz)⟩
    | true =>
     have HB:=Lib.hid (show ∀ j,j < k+1->dig2 (ZS ws j)=true from fun j hj=>by
      rcases Nat.lt_succ_iff_lt_or_eq.1 hj with h | rfl
      ·exact HN.out j h
      ·exact hz)
     have HZ:=Lib.hid (numV_yes (l:=ZS ws k) (d:=2) hz)
     clear hz
     go_wp2_with fail
     refine HK.out.mono ?_
     rintro e w5 ⟨rfl,hb5⟩
     rw [HZ.out]
     have hs5:=hb5.size
     have o5:=HOwn.out.below hb5 (Nat.le_refl _)
     have hw5:=hb.trans (hb5.mono hsz)
     go_wp2_with (refine app_I (by rfl) (.tmp 29) (.tmp 31) (by rfl) w.heap.size u6 (valsN (ws.take k)) (valN (ZS ws k):Int) w5.heap.size (by rfl) (o5.alloc _) (by rfl) (heap_alloc_new _ _) (by rw [hvl];omega) (by simp;omega) ?_;intro g cap w6 o6 hgr6 hb6)
     rw [hvl] at o6
     go_roundw
     case rel=>exact ⟨k+1,by omega,by go_num,HB,by rw [HT.out];exact o6,hw5.trans (((Below.refl _ w5).alloc (by omega) _).trans hb6)⟩
     case measure=>simp [intOf];omega
   ·obtain rfl:k=ws.length:=by omega
    rw [List.take_length] at hown
    have HB:=Lib.hid (HYes.out (all2_to HN.out))
    go_wp2_with fail
    go_ret2
    exact ⟨⟨_,by rw [HB.out];rfl,fun _=>hown⟩,hb⟩
 ·have p1:((ws.length:Int) == (n:Int))=false:=beq_eq_false_iff_ne.2 (by omega)
  have p2:((ws.length:Int) != (n:Int))=true:=by simp [bne,p1]
  have HV:=Lib.hid (show namesOk ws n=false by simp [namesOk,hq])
  go_enter Tryd.func42,Tryd.ntmps42
  have hb0:Below w.heap.size w (w.alloc (.cells #[.string W,.int .i64 (n:Int)] 54)):=by (repeat (first | exact rfl | exact Below.refl _ _ | (with_reducible refine Below.drew ?_) | (with_reducible refine Below.drewN ?_ _) | (with_reducible refine Below.alloc ?_ ?_ _) | (with_reducible refine Below.setCell ?_ ?_ _) | (show _<=_;focus (first | omega | (simp;done) | (simp;omega)))))
  go_wp2_with fail
  go_ret2
  exact ⟨⟨.slice none 0 0,by rw [HV.out];rfl,fun h=>by rw [HV.out] at h;cases h⟩,hb0⟩
theorem setRow_below {w W:World} {B g:Nat} (h:Below B w W) (hg:B<=g) (cs:Array Value):Below B w (W.setRow g cs) :=
 ⟨h.os,h.tape,h.output,by rw [setRow_size];exact h.size,fun k hk=>(setRow_other _ _ _ _ (by omega)).trans (h.block k hk)⟩
theorem put3 {w:World} {R:Nat} {t:TypeId} {p q r:Value} (x y z:Value) (h:w.heap[R]?=some (.cells #[p,q,r] t (0,0))) :
  (((w.setCell ⟨R,0,none⟩ x).setCell ⟨R,1,none⟩ y).setCell ⟨R,2,none⟩ z).cell? ⟨R,0,none⟩=some x∧(((w.setCell ⟨R,0,none⟩ x).setCell ⟨R,1,none⟩ y).setCell ⟨R,2,none⟩ z).cell? ⟨R,1,none⟩=some y∧(((w.setCell ⟨R,0,none⟩ x).setCell ⟨R,1,none⟩ y).setCell ⟨R,2,none⟩ z).cell? ⟨R,2,none⟩=some z:=by
 obtain ⟨hlt,he⟩:=Array.getElem?_eq_some_iff.1 h
 have b:(((w.setCell ⟨R,0,none⟩ x).setCell ⟨R,1,none⟩ y).setCell ⟨R,2,none⟩ z).heap[R]?=some (.cells #[x,y,z] t (0,0)):=by
  rw [Array.getElem?_eq_getElem (by simpa [World.setCell] using hlt)]
  simp [World.setCell,Array.getElem_modify,he]
 exact ⟨cell_of_row _ R 0 _ _ _ b,cell_of_row _ R 1 _ _ _ b,cell_of_row _ R 2 _ _ _ b⟩
theorem infoI12:(Tryd.prog.info? 3).map (·.size)=some 1:=by kernel_rfl
set_option maxRecDepth 8000 in
set_option maxHeartbeats 2000000 in
theorem c_deedOf (k:Int) (xs:List Int) (A:Option Addr) (c:Nat) (w:World) (hI:Is w w.heap.size A xs) (hl:xs.length<=2) :
  Calls Tryd.prog 43 #[.int .i64 k,.slice A xs.length c] w fun e w'=>e=.returned (.agg #[.int .i64 k,.int .i64 (Z xs 0),.int .i64 (Z xs 1)])∧Below w.heap.size w w':=by
 obtain ⟨w0,hw0⟩:∃ w0,(w.alloc (.cells #[.int .i64 0,.int .i64 0,.int .i64 0] 24)).alloc (.cells #[.int .i64 0,.int .i64 0] 94)=w0:=⟨_,rfl⟩
 have hb0:Below w.heap.size w w0:=by rw [<- hw0];exact ((Below.refl _ w).alloc (Nat.le_refl _) _).alloc (by simp) _
 have bR:w0.heap[w.heap.size]?=some (.cells #[.int .i64 0,.int .i64 0,.int .i64 0] 24 (0,0)):=by rw [<- hw0];exact (Below.heap_alloc _ _ _ (by simp)).trans (heap_alloc_new _ _)
 have bB:w0.heap[w.heap.size+1]?=some (.cells #[.int .i64 0,.int .i64 0] 94 (0,0)):=by rw [<- hw0];exact newK _ _ _
 have hI0:=hI.below hb0
 obtain ⟨w1,hcp,hb1,b1,bR1⟩:∃ w1,(Builtin.copy_ #[57,57] 3 #[.slice (some ⟨w.heap.size+1,0,none⟩) 2 2,.slice A xs.length c]).run Tryd.prog w0=.ok (goInt (xs.length:Nat)) w1∧Below w.heap.size w w1 ∧
   w1.heap[w.heap.size+1]?=some (.cells #[.int .i64 (Z xs 0),.int .i64 (Z xs 1)] 94 (0,0))∧w1.heap[w.heap.size]?=some (.cells #[.int .i64 0,.int .i64 0,.int .i64 0] 24 (0,0)):=by
  match xs,hl with
  | [],_=>exact ⟨w0,run_copy_none w0 _ _ _ 3 _ _ _ _ _ _ Tryd.underlying57 infoI12 (by simp [Nat.min]),hb0,bB,bR⟩
  | [x],_ =>
   obtain ⟨b,off,rfl,hlt,hc⟩:=hI0 (by simp)
   have h:=run_copy_row Tryd.prog w0 57 57 3 3 (w.heap.size+1) 0 2 2 ⟨b,off,none⟩ 1 c _ _ [.int .i64 x] Tryd.underlying57 infoI12 bB (by simp [Nat.min]) (fun j v hj=>by
    have hj0:j=0:=by have:=(List.getElem?_eq_some_iff.1 hj).1;simpa using this
    subst hj0
    have:=hc 0 (by simp)
    simp at hj
    rw [<- hj]
    simpa [Addr.add,Z] using this) (by simp) (by simp [Value.oneCell'])
   exact ⟨_,h,setRow_below hb0 (by omega) _,setRow_heap _ _ _ _ _ _ bB,(setRow_other _ _ _ _ (by omega)).trans bR⟩
  | [x,y],_ =>
   obtain ⟨b,off,rfl,hlt,hc⟩:=hI0 (by simp)
   have h:=run_copy_row Tryd.prog w0 57 57 3 3 (w.heap.size+1) 0 2 2 ⟨b,off,none⟩ 2 c _ _ [.int .i64 x,.int .i64 y] Tryd.underlying57 infoI12 bB (by simp [Nat.min]) (fun j v hj=>by
    have hj0:j=0∨j=1:=by have:=(List.getElem?_eq_some_iff.1 hj).1;simp at this;omega
    rcases hj0 with rfl | rfl
    ·have:=hc 0 (by simp)
     simp at hj
     rw [<- hj]
     simpa [Addr.add,Z] using this
    ·have:=hc 1 (by simp)
     simp at hj
     rw [<- hj]
     simpa [Addr.add,Z] using this) (by simp) (by simp [Value.oneCell'])
   exact ⟨_,h,setRow_below hb0 (by omega) _,setRow_heap _ _ _ _ _ _ bB,(setRow_other _ _ _ _ (by omega)).trans bR⟩
 have HB1:=Lib.hid hb1
 have HI:=Lib.hid bR1
 obtain ⟨k0,k1⟩:w1.cell? ⟨w.heap.size+1,0,none⟩=some (.int .i64 (Z xs 0))∧w1.cell? ⟨w.heap.size+1,1,none⟩=some (.int .i64 (Z xs 1)):=⟨cell_of_row _ _ 0 _ _ _ b1,cell_of_row _ _ 1 _ _ _ b1⟩
 obtain ⟨r0,r1,r2⟩:w1.cell? ⟨w.heap.size,0,none⟩=some (.int .i64 0)∧w1.cell? ⟨w.heap.size,1,none⟩=some (.int .i64 0)∧w1.cell? ⟨w.heap.size,2,none⟩=some (.int .i64 0):=⟨cell_of_row _ _ 0 _ _ _ bR1,cell_of_row _ _ 1 _ _ _ bR1,cell_of_row _ _ 2 _ _ _ bR1⟩
 obtain ⟨f0,f1,f2⟩:w1.frozen? ⟨w.heap.size,0,none⟩=false∧w1.frozen? ⟨w.heap.size,1,none⟩=false∧w1.frozen? ⟨w.heap.size,2,none⟩=false:=⟨unfrozenB bR1,unfrozenB bR1,unfrozenB bR1⟩
 clear bR bB hI hI0 hb1 b1 bR1
 go_enter Tryd.func43,Tryd.ntmps43
 go_wp2_with fail
 have h3:=put3 (.int .i64 k) (.int .i64 (Z xs 0)) (.int .i64 (Z xs 1)) HI.out
 obtain ⟨m0,m1,m2⟩:=h3
 refine bodyPost_ret (v:=.agg #[.int .i64 k,.int .i64 (Z xs 0),.int .i64 (Z xs 1)]) (by simp [results,Tryd.f43,go_sem,m0,m1,m2]) rfl ?_
 exact ⟨rfl,((HB1.out.setCell (p:=⟨w.heap.size,0,none⟩) (Nat.le_refl _) _).setCell (p:=⟨w.heap.size,1,none⟩) (Nat.le_refl _) _).setCell (p:=⟨w.heap.size,2,none⟩) (Nat.le_refl _) _⟩
end Go.Proofs.YticccnkanihpnaaDoor
