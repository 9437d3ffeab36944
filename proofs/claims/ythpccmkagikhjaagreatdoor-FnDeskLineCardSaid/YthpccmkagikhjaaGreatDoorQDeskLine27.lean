import Derived.Test.YthpccmkagikhjaaGreatDoorQDeskLine2
import Derived.Test.YthpccmkagikhjaaGreatDoorQDeskLine7
import Derived.Test.YthpccmkagikhjaaGreatDoorQDeskLine9
import Derived.Test.YthpccmkagikhjaaGreatDoorQDeskLine10
import Derived.Test.YthpccmkagikhjaaGreatDoorQDeskLine11
import Derived.Shelf.Strings.Builder1
import Derived.Shelf.Strings.Builder2
import Derived.Shelf.Strings.OnBuilder
import Derived.Shelf.Strings.BuilderF
import Derived.Shelf.Strings.BuilderK
import Derived.Shelf.Utf8.RuneCount
import Derived.Shelf.Strings.Builder2Cap
import Derived.Shelf.Strconv.Atoi
import Derived.Shelf.Strconv.Itoa0
import Derived.Shelf.Strconv.Itoa1
import Derived.Shelf.LaysM
import Derived.Shelf.Strconv.Itoa2
import Derived.Shelf.Strconv.Itoa3
import Derived.Shelf.Strconv.AtoiErrFast
import Derived.Shelf.Strconv.ParseIntEmpty
import Derived.Shelf.Strconv.AtoiFail
import Derived.Shelf.Strconv.Clone
import Derived.Shelf.Strconv.SyntaxError
import Derived.Shelf.LaysC
import Derived.Shelf.Strconv.ToError
import Derived.Shelf.Strconv.AtoiErr
import Derived.Shelf.Strconv.ErrVar
import Derived.Shelf.Strconv.Lower
import Derived.Shelf.Strconv.ParseUint10
import Derived.Shelf.Strconv.ParseUint10Empty
import Derived.Shelf.Strconv.ParseUint10Any
import Derived.Shelf.Strconv.ParseInt10
import Derived.Shelf.Strconv.AtoiLong
import Derived.Shelf.Strconv.AtoiInnerAll
import Derived.Shelf.Strconv.RangeError
import Derived.Shelf.Strconv.ToErrorRange
import Derived.Shelf.Strconv.AtoiAll
import Derived.Shelf.Strconv.ErrVarAll
import Derived.Shelf.Strings.Search1
import Derived.Shelf.Strings.Search2
import Derived.Shelf.Strings.Search3
import Derived.Shelf.Strings.Cut
import Derived.Shelf.Strings.Count
import Derived.Shelf.Strings.Shaped
import Derived.Shelf.Strings.Split
import Derived.Shelf.Strings.SplitShaped
import Derived.Shelf.Unicode.Decode
import Derived.Shelf.Strings.RuneCount
import Derived.Shelf.Strings.Explode
import Derived.Shelf.Unicode.DecodeSlow
import Derived.Shelf.Unicode.DecodeAny
import Derived.Test.YthpccmkagikhjaaGreatDoorProg
import Derived.Lib.AtoiTie
import Derived.WalkKit
import Derived.Laws.CopyRow
import Derived.Laws.IdiomCopy
import Derived.Laws.Tables
namespace Go.Proofs
open Go.Shelf
open Go.RowKit in
def Tryz.lays156_ren:Go.Shelf.Ren:=⟨fun | 156=>190 | 165=>224 | 166=>57 | 169=>59 | 240=>115 | 241=>253 | 276=>151 | 277=>262 | n=>n,fun | 31=>48 | 9=>9 | 3=>3 | 4=>4 | 0=>0 | 20=>20 | 72=>91 | 76=>94 | 70=>89 | 37=>22 | 75=>93 | 127=>149 | 164=>167 | 5=>5 | 80=>97 | n=>n,fun | n=>n⟩
theorem Tryz.lays156:Go.Proofs.Lays.n156 Tryz.prog Tryz.lays156_ren:={
 mixed:=by kernel_rfl
 f156:=Tryz.func190.trans (congrArg some (by kernel_rfl))
 f165:=Tryz.func224.trans (congrArg some (by kernel_rfl))
 f166:=Tryz.func57.trans (congrArg some (by kernel_rfl))
 f169:=Tryz.func59.trans (congrArg some (by kernel_rfl))
 f240:=Tryz.func115.trans (congrArg some (by kernel_rfl))
 f241:=Tryz.func253.trans (congrArg some (by kernel_rfl))
 f276:=Tryz.func151.trans (congrArg some (by kernel_rfl))
 f277:=Tryz.func262.trans (congrArg some (by kernel_rfl))
 t0:=Tryz.underlying0
 a0:=Tryz.isAgg0
 z0:=Tryz.sizeOf0
 v0:=Tryz.zeroValue0
 t3:=Tryz.underlying3
 a3:=Tryz.isAgg3
 z3:=Tryz.sizeOf3
 v3:=Tryz.zeroValue3
 t4:=Tryz.underlying4
 a4:=Tryz.isAgg4
 z4:=Tryz.sizeOf4
 v4:=Tryz.zeroValue4
 t9:=Tryz.underlying9
 a9:=Tryz.isAgg9
 z9:=Tryz.sizeOf9
 v9:=Tryz.zeroValue9
 t20:=Tryz.underlying20
 a20:=Tryz.isAgg20
 z20:=Tryz.sizeOf20
 v20:=Tryz.zeroValue20
 t31:=Tryz.underlying48
 a31:=Tryz.isAgg48
 z31:=Tryz.sizeOf48
 v31:=Tryz.zeroValue48
 t37:=Tryz.underlying22
 a37:=Tryz.isAgg22
 z37:=Tryz.sizeOf22
 v37:=Tryz.zeroValue22
 t70:=Tryz.underlying89
 a70:=Tryz.isAgg89
 z70:=Tryz.sizeOf89
 v70:=Tryz.zeroValue89
 t72:=Tryz.underlying91
 a72:=Tryz.isAgg91
 z72:=Tryz.sizeOf91
 v72:=Tryz.zeroValue91
 t75:=Tryz.underlying93
 a75:=Tryz.isAgg93
 z75:=Tryz.sizeOf93
 v75:=Tryz.zeroValue93
 t76:=Tryz.underlying94
 a76:=Tryz.isAgg94
 z76:=Tryz.sizeOf94
 v76:=Tryz.zeroValue94
 t127:=Tryz.underlying149
 a127:=Tryz.isAgg149
 z127:=Tryz.sizeOf149
 v127:=Tryz.zeroValue149
 t164:=Tryz.underlying167
 a164:=Tryz.isAgg167
 z164:=Tryz.sizeOf167
 v164:=Tryz.zeroValue167 }
theorem Tryz.Builder_Extra_156:Builder.Extra Tryz.prog Tryz.lays156_ren:={
 sizeBuilder:=by kernel_rfl
 liesBuilder:=by kernel_rfl
 t5:=Tryz.underlying5
 a5:=Tryz.isAgg5
 z5:=Tryz.sizeOf5
 v5:=Tryz.zeroValue5
 infoByte:=by kernel_rfl
 cellsByte:=by kernel_rfl
 sizeByte:=by kernel_rfl
 neB5:=by decide }
open Go.RowKit in
theorem Tryz.strings_Join (bk o c:Nat) (xs:List ByteArray) (sep:ByteArray) (w:World) (hcells:∀ (j:Nat) x,xs[j]?=some x->w.cell? ⟨bk,o+j,none⟩=some (.string x)) (hbk:bk < w.heap.size) (hN:xs.length<=140737488355328) (hcap:xs.length<=c) (hlen:(Lib.join (xs.map (·.data.toList)) sep.data.toList).length<=140737488355328) :
  Calls Tryz.prog 190 #[.slice (some ⟨bk,o,none⟩) xs.length c,.string sep] w fun e w'=>e=.returned (.string ⟨(Lib.join (xs.map (·.data.toList)) sep.data.toList).toArray⟩)∧Below w.heap.size w w':=Any.strings_Join Tryz.lays156 Tryz.Builder_Extra_156 bk o c xs sep w hcells hbk hN hcap hlen
open Go.RowKit Go.Sort Go.Lib in
def Tryz.laysM171_ren:Go.Shelf.Ren:=⟨fun | 171=>56 | 243=>114 | 246=>150 | 283=>181 | 284=>182 | 285=>183 | 286=>184 | 129=>219 | 317=>218 | 318=>220 | 319=>221 | 320=>222 | 337=>251 | 338=>252 | n=>n,fun | 3=>3 | 9=>9 | 2=>2 | 4=>4 | 171=>175 | 0=>0 | 53=>176 | 37=>22 | 5=>5 | 173=>179 | 212=>221 | 51=>181 | 20=>20 | 213=>222 | 46=>170 | 232=>263 | 233=>264 | n=>n,fun | 17=>1 | 18=>6 | 19=>7 | n=>n⟩
theorem Tryz.laysM171:Go.Proofs.LaysM.n171 Tryz.prog Tryz.laysM171_ren:={
 mixed:=by kernel_rfl
 f129:=Tryz.func219.trans (congrArg some (by kernel_rfl))
 f171:=Tryz.func56.trans (congrArg some (by kernel_rfl))
 f243:=Tryz.func114.trans (congrArg some (by kernel_rfl))
 f246:=Tryz.func150.trans (congrArg some (by kernel_rfl))
 f283:=Tryz.func181.trans (congrArg some (by kernel_rfl))
 f284:=Tryz.func182.trans (congrArg some (by kernel_rfl))
 f285:=Tryz.func183.trans (congrArg some (by kernel_rfl))
 f286:=Tryz.func184.trans (congrArg some (by kernel_rfl))
 f317:=Tryz.func218.trans (congrArg some (by kernel_rfl))
 f318:=Tryz.func220.trans (congrArg some (by kernel_rfl))
 f319:=Tryz.func221.trans (congrArg some (by kernel_rfl))
 f320:=Tryz.func222.trans (congrArg some (by kernel_rfl))
 f337:=Tryz.func251.trans (congrArg some (by kernel_rfl))
 f338:=Tryz.func252.trans (congrArg some (by kernel_rfl))
 t0:=Tryz.underlying0
 a0:=Tryz.isAgg0
 z0:=Tryz.sizeOf0
 v0:=Tryz.zeroValue0
 t2:=Tryz.underlying2
 a2:=Tryz.isAgg2
 z2:=Tryz.sizeOf2
 v2:=Tryz.zeroValue2
 t3:=Tryz.underlying3
 a3:=Tryz.isAgg3
 z3:=Tryz.sizeOf3
 v3:=Tryz.zeroValue3
 t4:=Tryz.underlying4
 a4:=Tryz.isAgg4
 z4:=Tryz.sizeOf4
 v4:=Tryz.zeroValue4
 t5:=Tryz.underlying5
 a5:=Tryz.isAgg5
 z5:=Tryz.sizeOf5
 v5:=Tryz.zeroValue5
 t9:=Tryz.underlying9
 a9:=Tryz.isAgg9
 z9:=Tryz.sizeOf9
 v9:=Tryz.zeroValue9
 t20:=Tryz.underlying20
 a20:=Tryz.isAgg20
 z20:=Tryz.sizeOf20
 v20:=Tryz.zeroValue20
 t37:=Tryz.underlying22
 a37:=Tryz.isAgg22
 z37:=Tryz.sizeOf22
 v37:=Tryz.zeroValue22
 t46:=Tryz.underlying170
 a46:=Tryz.isAgg170
 z46:=Tryz.sizeOf170
 v46:=Tryz.zeroValue170
 t51:=Tryz.underlying181
 a51:=Tryz.isAgg181
 z51:=Tryz.sizeOf181
 v51:=Tryz.zeroValue181
 t53:=Tryz.underlying176
 a53:=Tryz.isAgg176
 z53:=Tryz.sizeOf176
 v53:=Tryz.zeroValue176
 t171:=Tryz.underlying175
 a171:=Tryz.isAgg175
 z171:=Tryz.sizeOf175
 v171:=Tryz.zeroValue175
 t173:=Tryz.underlying179
 a173:=Tryz.isAgg179
 z173:=Tryz.sizeOf179
 v173:=Tryz.zeroValue179
 t212:=Tryz.underlying221
 a212:=Tryz.isAgg221
 z212:=Tryz.sizeOf221
 v212:=Tryz.zeroValue221
 t213:=Tryz.underlying222
 a213:=Tryz.isAgg222
 z213:=Tryz.sizeOf222
 t232:=Tryz.underlying263
 a232:=Tryz.isAgg263
 z232:=Tryz.sizeOf263
 v232:=Tryz.zeroValue263
 t233:=Tryz.underlying264
 a233:=Tryz.isAgg264
 z233:=Tryz.sizeOf264
 v233:=Tryz.zeroValue264
 g17:=by kernel_rfl
 g18:=by kernel_rfl
 g19:=by kernel_rfl
 i0:=by kernel_rfl
 i2:=by kernel_rfl
 i3:=by kernel_rfl
 i4:=by kernel_rfl
 i5:=by kernel_rfl
 i9:=by kernel_rfl
 i20:=by kernel_rfl
 i37:=by kernel_rfl
 i46:=by kernel_rfl
 i51:=by kernel_rfl
 i53:=by kernel_rfl
 i171:=by kernel_rfl
 i173:=by kernel_rfl
 i212:=by kernel_rfl
 i232:=by kernel_rfl
 i233:=by kernel_rfl
 m17:=by kernel_rfl
 m18:=by kernel_rfl
 m19:=by kernel_rfl }
open Go.RowKit Go.Sort Go.Lib in
theorem Tryz.strconv_Itoa (n : Int) (h0 : -9223372036854775808 ≤ n) (h1 : n ≤ 9223372036854775807) (w : World) (htab : Lib.TabIs Tryz.prog w "internal/strconv.uint64pow10" .u64 Lib.pow10Tab) :
  Calls Tryz.prog 56 #[.int .i64 n] w fun e w'=>e=.returned (.string ⟨(Lib.itoa n).toArray⟩)∧∃ k os,w'=grow (w.drewN k) os:=Any.strconv_Itoa Tryz.laysM171 n h0 h1 w htab
open Go.RowKit in
def Tryz.laysC172_ren:Go.Shelf.Ren:=⟨fun | 172=>143 | 244=>177 | 245=>178 | 247=>212 | 279=>213 | 280=>214 | 281=>215 | 282=>216 | 287=>248 | 316=>249 | 171=>56 | 205=>250 | 321=>260 | 322=>261 | 243=>114 | 246=>150 | 283=>181 | 284=>182 | 285=>183 | 286=>184 | 129=>219 | 317=>218 | 318=>220 | 319=>221 | 320=>222 | 337=>251 | 338=>252 | n=>n,fun | 9=>9 | 3=>3 | 75=>93 | 76=>94 | 4=>4 | 5=>5 | 167=>213 | 37=>22 | 0=>0 | 85=>214 | 2=>2 | 168=>216 | 53=>176 | 175=>242 | 46=>170 | 210=>245 | 127=>149 | 145=>262 | 143=>260 | 21=>21 | 171=>175 | 173=>179 | 212=>221 | 51=>181 | 20=>20 | 213=>222 | 232=>263 | 233=>264 | 80=>97 | n=>n,fun | 15=>2 | 16=>3 | 17=>1 | 18=>6 | 19=>7 | n=>n⟩
theorem Tryz.laysC172:Go.Proofs.LaysC.n172 Tryz.prog Tryz.laysC172_ren:={
 mixed:=by kernel_rfl
 f129:=Tryz.func219.trans (congrArg some (by kernel_rfl))
 f171:=Tryz.func56.trans (congrArg some (by kernel_rfl))
 f172:=Tryz.func143.trans (congrArg some (by kernel_rfl))
 f205:=Tryz.func250.trans (congrArg some (by kernel_rfl))
 f243:=Tryz.func114.trans (congrArg some (by kernel_rfl))
 f244:=Tryz.func177.trans (congrArg some (by kernel_rfl))
 f245:=Tryz.func178.trans (congrArg some (by kernel_rfl))
 f246:=Tryz.func150.trans (congrArg some (by kernel_rfl))
 f247:=Tryz.func212.trans (congrArg some (by kernel_rfl))
 f279:=Tryz.func213.trans (congrArg some (by kernel_rfl))
 f280:=Tryz.func214.trans (congrArg some (by kernel_rfl))
 f281:=Tryz.func215.trans (congrArg some (by kernel_rfl))
 f282:=Tryz.func216.trans (congrArg some (by kernel_rfl))
 f283:=Tryz.func181.trans (congrArg some (by kernel_rfl))
 f284:=Tryz.func182.trans (congrArg some (by kernel_rfl))
 f285:=Tryz.func183.trans (congrArg some (by kernel_rfl))
 f286:=Tryz.func184.trans (congrArg some (by kernel_rfl))
 f287:=Tryz.func248.trans (congrArg some (by kernel_rfl))
 f316:=Tryz.func249.trans (congrArg some (by kernel_rfl))
 f317:=Tryz.func218.trans (congrArg some (by kernel_rfl))
 f318:=Tryz.func220.trans (congrArg some (by kernel_rfl))
 f319:=Tryz.func221.trans (congrArg some (by kernel_rfl))
 f320:=Tryz.func222.trans (congrArg some (by kernel_rfl))
 f321:=Tryz.func260.trans (congrArg some (by kernel_rfl))
 f322:=Tryz.func261.trans (congrArg some (by kernel_rfl))
 f337:=Tryz.func251.trans (congrArg some (by kernel_rfl))
 f338:=Tryz.func252.trans (congrArg some (by kernel_rfl))
 t0:=Tryz.underlying0
 a0:=Tryz.isAgg0
 z0:=Tryz.sizeOf0
 v0:=Tryz.zeroValue0
 t2:=Tryz.underlying2
 a2:=Tryz.isAgg2
 z2:=Tryz.sizeOf2
 v2:=Tryz.zeroValue2
 t3:=Tryz.underlying3
 a3:=Tryz.isAgg3
 z3:=Tryz.sizeOf3
 v3:=Tryz.zeroValue3
 t4:=Tryz.underlying4
 a4:=Tryz.isAgg4
 z4:=Tryz.sizeOf4
 v4:=Tryz.zeroValue4
 t5:=Tryz.underlying5
 a5:=Tryz.isAgg5
 z5:=Tryz.sizeOf5
 v5:=Tryz.zeroValue5
 t9:=Tryz.underlying9
 a9:=Tryz.isAgg9
 z9:=Tryz.sizeOf9
 v9:=Tryz.zeroValue9
 t20:=Tryz.underlying20
 a20:=Tryz.isAgg20
 z20:=Tryz.sizeOf20
 v20:=Tryz.zeroValue20
 t21:=Tryz.underlying21
 a21:=Tryz.isAgg21
 z21:=Tryz.sizeOf21
 v21:=Tryz.zeroValue21
 t37:=Tryz.underlying22
 a37:=Tryz.isAgg22
 z37:=Tryz.sizeOf22
 v37:=Tryz.zeroValue22
 t46:=Tryz.underlying170
 a46:=Tryz.isAgg170
 z46:=Tryz.sizeOf170
 v46:=Tryz.zeroValue170
 t51:=Tryz.underlying181
 a51:=Tryz.isAgg181
 z51:=Tryz.sizeOf181
 v51:=Tryz.zeroValue181
 t53:=Tryz.underlying176
 a53:=Tryz.isAgg176
 z53:=Tryz.sizeOf176
 v53:=Tryz.zeroValue176
 t75:=Tryz.underlying93
 a75:=Tryz.isAgg93
 z75:=Tryz.sizeOf93
 v75:=Tryz.zeroValue93
 t76:=Tryz.underlying94
 a76:=Tryz.isAgg94
 z76:=Tryz.sizeOf94
 v76:=Tryz.zeroValue94
 t85:=Tryz.underlying214
 a85:=Tryz.isAgg214
 z85:=Tryz.sizeOf214
 v85:=Tryz.zeroValue214
 t127:=Tryz.underlying149
 a127:=Tryz.isAgg149
 z127:=Tryz.sizeOf149
 v127:=Tryz.zeroValue149
 t143:=Tryz.underlying260
 a143:=Tryz.isAgg260
 z143:=Tryz.sizeOf260
 v143:=Tryz.zeroValue260
 t145:=Tryz.underlying262
 a145:=Tryz.isAgg262
 z145:=Tryz.sizeOf262
 v145:=Tryz.zeroValue262
 t167:=Tryz.underlying213
 a167:=Tryz.isAgg213
 z167:=Tryz.sizeOf213
 v167:=Tryz.zeroValue213
 t168:=Tryz.underlying216
 a168:=Tryz.isAgg216
 z168:=Tryz.sizeOf216
 v168:=Tryz.zeroValue216
 t171:=Tryz.underlying175
 a171:=Tryz.isAgg175
 z171:=Tryz.sizeOf175
 v171:=Tryz.zeroValue175
 t173:=Tryz.underlying179
 a173:=Tryz.isAgg179
 z173:=Tryz.sizeOf179
 v173:=Tryz.zeroValue179
 t175:=Tryz.underlying242
 a175:=Tryz.isAgg242
 z175:=Tryz.sizeOf242
 v175:=Tryz.zeroValue242
 t210:=Tryz.underlying245
 a210:=Tryz.isAgg245
 z210:=Tryz.sizeOf245
 v210:=Tryz.zeroValue245
 t212:=Tryz.underlying221
 a212:=Tryz.isAgg221
 z212:=Tryz.sizeOf221
 v212:=Tryz.zeroValue221
 t213:=Tryz.underlying222
 a213:=Tryz.isAgg222
 z213:=Tryz.sizeOf222
 t232:=Tryz.underlying263
 a232:=Tryz.isAgg263
 z232:=Tryz.sizeOf263
 v232:=Tryz.zeroValue263
 t233:=Tryz.underlying264
 a233:=Tryz.isAgg264
 z233:=Tryz.sizeOf264
 v233:=Tryz.zeroValue264
 g15:=by kernel_rfl
 g16:=by kernel_rfl
 g17:=by kernel_rfl
 g18:=by kernel_rfl
 g19:=by kernel_rfl
 t80:=Tryz.underlying97
 a80:=Tryz.isAgg97
 z80:=Tryz.sizeOf97
 v80:=Tryz.zeroValue97
 i0:=by kernel_rfl
 i2:=by kernel_rfl
 i3:=by kernel_rfl
 i4:=by kernel_rfl
 i5:=by kernel_rfl
 i9:=by kernel_rfl
 i20:=by kernel_rfl
 i21:=by kernel_rfl
 i37:=by kernel_rfl
 i46:=by kernel_rfl
 i51:=by kernel_rfl
 i53:=by kernel_rfl
 i75:=by kernel_rfl
 i76:=by kernel_rfl
 i80:=by kernel_rfl
 i85:=by kernel_rfl
 i127:=by kernel_rfl
 i143:=by kernel_rfl
 i145:=by kernel_rfl
 i167:=by kernel_rfl
 i168:=by kernel_rfl
 i171:=by kernel_rfl
 i173:=by kernel_rfl
 i175:=by kernel_rfl
 i210:=by kernel_rfl
 i212:=by kernel_rfl
 i232:=by kernel_rfl
 i233:=by kernel_rfl
 m15:=by kernel_rfl
 m16:=by kernel_rfl
 m17:=by kernel_rfl
 m18:=by kernel_rfl
 m19:=by kernel_rfl
 c0:=by kernel_rfl
 c2:=by kernel_rfl
 c3:=by kernel_rfl
 c4:=by kernel_rfl
 c5:=by kernel_rfl
 c9:=by kernel_rfl
 c20:=by kernel_rfl
 c21:=by kernel_rfl
 c37:=by kernel_rfl
 c46:=by kernel_rfl
 c51:=by kernel_rfl
 c53:=by kernel_rfl
 c75:=by kernel_rfl
 c76:=by kernel_rfl
 c80:=by kernel_rfl
 c85:=by kernel_rfl
 c127:=by kernel_rfl
 c143:=by kernel_rfl
 c145:=by kernel_rfl
 c167:=by kernel_rfl
 c168:=by kernel_rfl
 c171:=by kernel_rfl
 c173:=by kernel_rfl
 c175:=by kernel_rfl
 c210:=by kernel_rfl
 c212:=by kernel_rfl
 c213:=by kernel_rfl
 c232:=by kernel_rfl
 c233:=by kernel_rfl }
open Go.RowKit in
theorem Tryz.strconv_Atoi_ok (s:ByteArray) (hmax:s.size<=9223372036854775806) (v:Int) (h:Lib.atoiAll s.data.toList=.ok v) (w:World) :
  Calls Tryz.prog 143 #[.string s] w fun e w'=>e=.returned (.tuple #[.int .i64 v,.nilIface])∧(w'=w∨∃ t,w'=Lib.bytesWorld w 5 t):=Any.strconv_Atoi_ok Tryz.laysC172 s hmax v h w
open Go.RowKit in
theorem Tryz.strconv_Atoi_syntax_var (s : ByteArray) (hlim : s.size ≤ 281474976710656) (h : Lib.atoiAll s.data.toList = Lib.NumEnd.syntax) (tp : TypeId) (p : Value) (w : World) (hvar : w.var? Tryz.prog "strconv.ErrSyntax" = some #[.iface tp p]) :
  Calls Tryz.prog 143 #[.string s] w fun e w'=>∃ N,e=.returned (.tuple #[.int .i64 0,.iface 216 (.pointer (some ⟨N,0,none⟩))])∧w.heap.size<=N∧w'.heap[N]?=some (.cells #[.string ⟨#[65,116,111,105]⟩,.string s,.iface tp p] 245 (0,0))∧Below w.heap.size w w':=Any.strconv_Atoi_syntax_var Tryz.laysC172 s hlim h tp p w hvar
open Go.RowKit in
theorem Tryz.strconv_Atoi_range_var (s : ByteArray) (hlim : s.size ≤ 281474976710656) (h : Lib.atoiAll s.data.toList = .range) (tp : TypeId) (p : Value) (w : World) (hvar : w.var? Tryz.prog "strconv.ErrRange" = some #[.iface tp p]) :
  Calls Tryz.prog 143 #[.string s] w fun e w'=>∃ N,e=.returned (.tuple #[.int .i64 (Lib.atoiSat s.data.toList),.iface 216 (.pointer (some ⟨N,0,none⟩))])∧w.heap.size<=N∧w'.heap[N]?=some (.cells #[.string ⟨#[65,116,111,105]⟩,.string s,.iface tp p] 245 (0,0))∧Below w.heap.size w w':=Any.strconv_Atoi_range_var Tryz.laysC172 s hlim h tp p w hvar
open Go.RowKit Go.Lib in
def Tryz.lays145_ren:Go.Shelf.Ren:=⟨fun | 145=>43 | 220=>96 | 219=>128 | 217=>155 | 225=>156 | 224=>157 | 267=>158 | 266=>185 | 314=>186 | n=>n,fun | 9=>9 | 4=>4 | 59=>69 | 3=>3 | 5=>5 | 46=>170 | 146=>182 | 51=>181 | n=>n,fun | 1=>0 | n=>n⟩
theorem Tryz.lays145:Go.Proofs.Lays.n145 Tryz.prog Tryz.lays145_ren:={
 mixed:=by kernel_rfl
 f145:=Tryz.func43.trans (congrArg some (by kernel_rfl))
 f217:=Tryz.func155.trans (congrArg some (by kernel_rfl))
 f219:=Tryz.func128.trans (congrArg some (by kernel_rfl))
 f220:=Tryz.func96.trans (congrArg some (by kernel_rfl))
 f224:=Tryz.func157.trans (congrArg some (by kernel_rfl))
 f225:=Tryz.func156.trans (congrArg some (by kernel_rfl))
 f266:=Tryz.func185.trans (congrArg some (by kernel_rfl))
 f267:=Tryz.func158.trans (congrArg some (by kernel_rfl))
 f314:=Tryz.func186.trans (congrArg some (by kernel_rfl))
 t3:=Tryz.underlying3
 a3:=Tryz.isAgg3
 z3:=Tryz.sizeOf3
 v3:=Tryz.zeroValue3
 t4:=Tryz.underlying4
 a4:=Tryz.isAgg4
 z4:=Tryz.sizeOf4
 v4:=Tryz.zeroValue4
 t5:=Tryz.underlying5
 a5:=Tryz.isAgg5
 z5:=Tryz.sizeOf5
 v5:=Tryz.zeroValue5
 t9:=Tryz.underlying9
 a9:=Tryz.isAgg9
 z9:=Tryz.sizeOf9
 v9:=Tryz.zeroValue9
 t46:=Tryz.underlying170
 a46:=Tryz.isAgg170
 z46:=Tryz.sizeOf170
 v46:=Tryz.zeroValue170
 t51:=Tryz.underlying181
 a51:=Tryz.isAgg181
 z51:=Tryz.sizeOf181
 v51:=Tryz.zeroValue181
 t59:=Tryz.underlying69
 a59:=Tryz.isAgg69
 z59:=Tryz.sizeOf69
 v59:=Tryz.zeroValue69
 t146:=Tryz.underlying182
 a146:=Tryz.isAgg182
 z146:=Tryz.sizeOf182
 v146:=Tryz.zeroValue182
 g1:=by kernel_rfl }
open Go.RowKit Go.Lib in
theorem Tryz.strings_Cut (s sep:ByteArray) (m:Int) (w:World) (hs:s.size < 4294967281) (hm:w.cell? ⟨0,0,none⟩=some (.int .i64 m)) :
  Calls Tryz.prog 43 #[.string s,.string sep] w fun e w'=>e=.returned (.tuple #[.string ⟨(Lib.cut s.data.toList sep.data.toList).1.toArray⟩,.string ⟨(Lib.cut s.data.toList sep.data.toList).2.1.toArray⟩,.bool (Lib.cut s.data.toList sep.data.toList).2.2])∧∃ n,w'=w.drewN n:=Any.strings_Cut Tryz.lays145 s sep m w hs hm
open Go.RowKit Go.Lib in
def Tryz.lays146_ren:Go.Shelf.Ren:=⟨fun | 146=>97 | 221=>129 | 268=>159 | 138=>160 | 143=>161 | 195=>187 | 197=>188 | 218=>189 | 219=>128 | 260=>223 | 217=>155 | 225=>156 | 224=>157 | 267=>158 | 266=>185 | 314=>186 | n=>n,fun | 9=>9 | 31=>48 | 3=>3 | 4=>4 | 0=>0 | 105=>184 | 21=>21 | 5=>5 | 46=>170 | 119=>248 | 139=>251 | 138=>250 | 146=>182 | 51=>181 | n=>n,fun | 1=>0 | 3=>4 | 4=>5 | n=>n⟩
theorem Tryz.lays146:Go.Proofs.Lays.n146 Tryz.prog Tryz.lays146_ren:={
 mixed:=by kernel_rfl
 f138:=Tryz.func160.trans (congrArg some (by kernel_rfl))
 f143:=Tryz.func161.trans (congrArg some (by kernel_rfl))
 f146:=Tryz.func97.trans (congrArg some (by kernel_rfl))
 f195:=Tryz.func187.trans (congrArg some (by kernel_rfl))
 f197:=Tryz.func188.trans (congrArg some (by kernel_rfl))
 f217:=Tryz.func155.trans (congrArg some (by kernel_rfl))
 f218:=Tryz.func189.trans (congrArg some (by kernel_rfl))
 f219:=Tryz.func128.trans (congrArg some (by kernel_rfl))
 f221:=Tryz.func129.trans (congrArg some (by kernel_rfl))
 f224:=Tryz.func157.trans (congrArg some (by kernel_rfl))
 f225:=Tryz.func156.trans (congrArg some (by kernel_rfl))
 f260:=Tryz.func223.trans (congrArg some (by kernel_rfl))
 f266:=Tryz.func185.trans (congrArg some (by kernel_rfl))
 f267:=Tryz.func158.trans (congrArg some (by kernel_rfl))
 f268:=Tryz.func159.trans (congrArg some (by kernel_rfl))
 f314:=Tryz.func186.trans (congrArg some (by kernel_rfl))
 t0:=Tryz.underlying0
 a0:=Tryz.isAgg0
 z0:=Tryz.sizeOf0
 v0:=Tryz.zeroValue0
 t3:=Tryz.underlying3
 a3:=Tryz.isAgg3
 z3:=Tryz.sizeOf3
 v3:=Tryz.zeroValue3
 t4:=Tryz.underlying4
 a4:=Tryz.isAgg4
 z4:=Tryz.sizeOf4
 v4:=Tryz.zeroValue4
 t5:=Tryz.underlying5
 a5:=Tryz.isAgg5
 z5:=Tryz.sizeOf5
 v5:=Tryz.zeroValue5
 t9:=Tryz.underlying9
 a9:=Tryz.isAgg9
 z9:=Tryz.sizeOf9
 v9:=Tryz.zeroValue9
 t21:=Tryz.underlying21
 a21:=Tryz.isAgg21
 z21:=Tryz.sizeOf21
 v21:=Tryz.zeroValue21
 t31:=Tryz.underlying48
 a31:=Tryz.isAgg48
 z31:=Tryz.sizeOf48
 v31:=Tryz.zeroValue48
 t46:=Tryz.underlying170
 a46:=Tryz.isAgg170
 z46:=Tryz.sizeOf170
 v46:=Tryz.zeroValue170
 t51:=Tryz.underlying181
 a51:=Tryz.isAgg181
 z51:=Tryz.sizeOf181
 v51:=Tryz.zeroValue181
 t105:=Tryz.underlying184
 a105:=Tryz.isAgg184
 z105:=Tryz.sizeOf184
 v105:=Tryz.zeroValue184
 t119:=Tryz.underlying248
 a119:=Tryz.isAgg248
 z119:=Tryz.sizeOf248
 t138:=Tryz.underlying250
 a138:=Tryz.isAgg250
 z138:=Tryz.sizeOf250
 v138:=Tryz.zeroValue250
 t139:=Tryz.underlying251
 a139:=Tryz.isAgg251
 z139:=Tryz.sizeOf251
 v139:=Tryz.zeroValue251
 t146:=Tryz.underlying182
 a146:=Tryz.isAgg182
 z146:=Tryz.sizeOf182
 v146:=Tryz.zeroValue182
 g1:=by kernel_rfl
 g3:=by kernel_rfl
 g4:=by kernel_rfl }
open Go.RowKit Go.Lib in
theorem Tryz.strings_Split (s sep:ByteArray) (m:Int) (w:World) (hs:s.size < 4294967281) (hm:w.cell? ⟨0,0,none⟩=some (.int .i64 m)) (h1:1<=sep.size) :
  Calls Tryz.prog 97 #[.string s,.string sep] w fun e w' =>
   e=.returned (.slice (some ⟨w.heap.size,0,none⟩) (Lib.countB s sep+1) (Lib.countB s sep+1))∧w'=w.alloc (.cells ((Lib.splitB sep 0 (Lib.countB s sep) s).map Value.string).toArray 9):=Any.strings_Split Tryz.lays146 (by kernel_rfl) s sep m w hs hm h1
end Go.Proofs
namespace Go.Proofs.YthpccmkagikhjaaGreatDoor
set_option linter.unusedVariables false
open Go.RowKit
theorem dec_num:∀ n,Lib.decDigits n=numL n:=by
 intro n
 induction n using Nat.strongRecOn with
 | _ n ih =>
  rw [Lib.decDigits,numL]
  by_cases h:n < 10
  ·rw [dif_pos h,if_pos h,dig8,Nat.mod_eq_of_lt h]
  ·rw [dif_neg h,if_neg h,ih (n / 10) (by omega),dig8]
theorem itoa_num (n:Nat):Lib.itoa (n:Int)=numL n:=by
 rw [Lib.itoa,if_neg (by omega),Int.toNat_natCast,dec_num]
theorem below_grow (w:World) (k:Nat) (os:Array Obj):Below w.heap.size w (Sort.grow (w.drewN k) os) :=
 ⟨rfl,rfl,rfl,by simp [Sort.grow,World.drewN],fun j hj=>by
   show ((w.drewN k).heap++os)[j]?=w.heap[j]?
   exact Array.getElem?_append_left hj⟩
theorem c_itoa (n:Nat) (w:World) (hn:n<=9223372036854775807) (hV:LV w w.heap.size) :
  Calls Tryz.prog 56 #[.int .i64 (n:Int)] w fun e w'=>e=.returned (.string (bs (numL n)))∧Below w.heap.size w w' :=
 (Tryz.strconv_Itoa (n:Int) (by omega) (by omega) w hV.1.2).mono fun e w' ⟨he,k,os,hw⟩=>by
   rw [itoa_num] at he
   refine ⟨he,?_⟩
   rw [hw]
   exact below_grow w k os
theorem c_atoi (l:List UInt8) (hl:l.length<=140737488355328) (w:World) (hV:LV w w.heap.size) :
  Calls Tryz.prog 143 #[.string (bs l)] w fun e w'=>((∃ v,Lib.atoiAll l=.ok v∧e=.returned (.tuple #[.int .i64 v,.nilIface]))∨((∀ v,Lib.atoiAll l≠.ok v)∧∃ v b,e=.returned (.tuple #[.int .i64 v,.iface 216 (.pointer (some ⟨b,0,none⟩))])))∧Below w.heap.size w w':=by
 have hsz:=bs_size l
 have hd:(bs l).data.toList=l:=rfl
 obtain ⟨⟨-,t1,p1,v1⟩,-,t2,p2,v2⟩:=hV.2.1
 cases h:Lib.atoiAll l with
 | ok v =>
  refine (Tryz.strconv_Atoi_ok (bs l) (by omega) v (by rw [hd];exact h) w).mono fun e w' ⟨he,hw⟩=>⟨.inl ⟨v,rfl,he⟩,?_⟩
  rcases hw with rfl | ⟨t,rfl⟩
  ·exact Below.refl _ _
  ·exact Lib.bytesWorld_below _ _ _
 | range =>
  exact (Tryz.strconv_Atoi_range_var (bs l) (by omega) (by rw [hd];exact h) t2 p2 w v2).mono fun e w' ⟨b,he,_,_,hb⟩=>⟨.inr ⟨fun v hv=>by simp at hv,_,b,he⟩,hb⟩
 | _ =>
  exact (Tryz.strconv_Atoi_syntax_var (bs l) (by omega) (by rw [hd];exact h) t1 p1 w v1).mono fun e w' ⟨b,he,_,_,hb⟩=>⟨.inr ⟨fun v hv=>by simp at hv,_,b,he⟩,hb⟩
end Go.Proofs.YthpccmkagikhjaaGreatDoor
namespace Go.Proofs.YthpccmkagikhjaaGreatDoor
set_option linter.unusedVariables false
open Go.RowKit
attribute [local go_sem ↓] Go.wp_at_zero Go.wp_at_succ
theorem atoi_bd {l:List UInt8} {v:Int} (h:Lib.atoiAll l=.ok v):-9223372036854775808<=v∧v<=9223372036854775807:=Lib.atoiAll_bounds h
theorem num_read {l:List UInt8} (h6:l.length<=6):(digOk l=true->Lib.atoiAll l=.ok (valN l:Int)∧Lib.itoa (valN l:Int)=l)∧(digOk l=false->∀ v,Lib.atoiAll l=.ok v->0<=v->Lib.itoa v≠l):=by
 rw [Lib.atoiAll_short l (by omega)]
 refine ⟨fun h=>?_,fun h v hv h0 he=>?_⟩
 ·obtain ⟨h1,h2,h3⟩:=digOk_parts h
  have hne:l≠[]:=fun e=>by subst e;simp at h1
  rw [atoi_val hne h3]
  exact ⟨rfl,by rw [itoa_num];exact num_of _ l rfl hne h3 h2⟩
 ·obtain ⟨n,rfl⟩:=Int.eq_ofNat_of_zero_le h0
  rw [itoa_num] at he
  have hlt:n < 1000000:=by
   have hl:(numL n).length<=6:=by rw [he];exact h6
   refine Nat.lt_of_not_le fun hge=>?_
   rw [numL_more (by omega),numL_more (by omega),numL_more (by omega),numL_more (by omega),numL_more (by omega),numL_more (by omega)] at hl
   have:=numL_ne (n / 10 / 10 / 10 / 10 / 10 / 10)
   simp at hl
   exact absurd hl (by intro e;rw [e] at this;simp at this)
  have:=digL_num hlt
  rw [he,digL,if_neg (by simp [h])] at this
  omega
def okN (l:List UInt8) (d:Nat):Bool:=digOk l && decide (l.length<=d)
def numV (l:List UInt8) (d:Nat):Value:=.tuple #[.int .i64 (if okN l d=true then (valN l:Int) else 0),.bool (okN l d)]
theorem numV_no {l:List UInt8} {d:Nat} (h:okN l d=false):numV l d=.tuple #[.int .i64 0,.bool false]:=by simp [numV,h]
theorem numV_yes {l:List UInt8} {d:Nat} (h:okN l d=true):numV l d=.tuple #[.int .i64 (valN l:Int),.bool true]:=by simp [numV,h]
set_option maxHeartbeats 1000000 in
theorem c_readNumber (l:List UInt8) (d:Nat) (hd6:d<=6) (hl:l.length<=100000000) (w:World) (hV:LV w w.heap.size) :
  Calls Tryz.prog 108 #[.string (bs l),.int .i64 (d:Int)] w fun e w'=>e=.returned (numV l d)∧Below w.heap.size w w':=by
 have hsz:=bs_size l
 by_cases h6:1<=l.length∧l.length<=d
 ·have q1:decide (1<=((bs l).size:Int)∧((bs l).size:Int)<=(d:Int))=true:=decide_eq_true (by rw [hsz];omega)
  have hdk:okN l d=digOk l:=by simp [okN,h6.2]
  obtain ⟨R1,R2⟩:=num_read (l:=l) (by omega)
  have HA:=Lib.hid (c_atoi l (by omega) w hV)
  have HB:=Lib.hid (fun v h=>atoi_bd (l:=l) (v:=v) h)
  have HI:=Lib.hid (fun (n:Int) (W:World) (h:-9223372036854775808<=n∧n<=9223372036854775807) (hb:Below w.heap.size w W)=>Tryz.strconv_Itoa n h.1 h.2 W (hV.at hb).1.2)
  have HR1:=Lib.hid R1
  have HR2:=Lib.hid R2
  have HQ:=Lib.hid q1
  clear R1 R2 hV hsz q1
  go_enter Tryz.func108,Tryz.ntmps108
  go_wp2_with fail
  refine (c_within _ _ _ _).mono ?_
  rintro e w' ⟨rfl,rfl⟩
  rw [HQ.out]
  go_wp2_with fail
  refine HA.out.mono ?_
  rintro e w1 ⟨(⟨v,hv,rfl⟩ | ⟨hn,v,b,rfl⟩),hb1⟩
  ·have hbd:=HB.out v hv
   have HI1:=Lib.hid (HI.out v w1 hbd hb1)
   have HX:=Lib.hid (fun w2 (h:Below w1.heap.size w1 w2)=>hb1.trans (h.mono hb1.size))
   have heq:∀ x:List UInt8,(x == (bs l).toList)=decide (x=l):=fun x=>by
    rw [bs_list]
    cases h:(x == l) with
    | true=>rw [decide_eq_true (eq_of_beq h)]
    | false=>rw [decide_eq_false (fun e=>by rw [e] at h;simp at h)]
   have hne:=heq (Lib.itoa v)
   by_cases h0:v < 0
   ·have hd:okN l d=false:=by
     rw [hdk]
     cases h:digOk l with
     | false=>rfl
     | true=>have:=(HR1.out h).1;rw [hv] at this;injection this with e;omega
    have HD:=Lib.hid (numV_no hd)
    clear hbd heq hd hne hdk
    go_wp2_with fail
    go_ret2
    exact ⟨by rw [HD.out];rfl,hb1⟩
   ·by_cases hI:Lib.itoa v=l
    ·rw [decide_eq_true hI] at hne
     have hd:okN l d=true:=by
      rw [hdk]
      cases h:digOk l with
      | true=>rfl
      | false=>exact absurd hI (HR2.out h v hv (by omega))
     have hvl:v=(valN l:Int):=by have:=(HR1.out (by rw [<- hdk];exact hd)).1;rw [hv] at this;injection this
     have HD:=Lib.hid (show numV l d=.tuple #[.int .i64 v,.bool true] by rw [numV_yes hd,hvl])
     clear hbd hb1 heq hI hd hvl hdk
     go_wp2_with fail
     refine HI1.out.mono ?_
     rintro e w2 ⟨rfl,k,os,hw2⟩
     have hb2:Below w1.heap.size w1 w2:=by rw [hw2];exact below_grow w1 k os
     clear hw2
     go_wp2_with fail
     go_ret2
     exact ⟨by rw [HD.out];rfl,HX.out _ hb2⟩
    ·rw [decide_eq_false hI] at hne
     have hd:okN l d=false:=by
      rw [hdk]
      cases h:digOk l with
      | false=>rfl
      | true =>
       have h2:=HR1.out h
       have e:v=(valN l:Int):=by have:=h2.1;rw [hv] at this;injection this
       exact absurd (by rw [e];exact h2.2) hI
     have HD:=Lib.hid (numV_no hd)
     clear hbd hb1 heq hI hd hdk
     go_wp2_with fail
     refine HI1.out.mono ?_
     rintro e w2 ⟨rfl,k,os,hw2⟩
     have hb2:Below w1.heap.size w1 w2:=by rw [hw2];exact below_grow w1 k os
     clear hw2
     go_wp2_with fail
     go_ret2
     exact ⟨by rw [HD.out];rfl,HX.out _ hb2⟩
  ·have hd:okN l d=false:=by
    rw [hdk]
    cases h:digOk l with
    | false=>rfl
    | true=>exact absurd (HR1.out h).1 (hn _)
   have HD:=Lib.hid (numV_no hd)
   clear hd hn hdk
   go_wp2_with fail
   go_ret2
   exact ⟨by rw [HD.out];rfl,hb1⟩
 ·have q1:decide (1<=((bs l).size:Int)∧((bs l).size:Int)<=(d:Int))=false:=decide_eq_false (by rw [hsz];omega)
  have hd:okN l d=false:=by
   cases h:okN l d with
   | false=>rfl
   | true =>
    simp only [okN,Bool.and_eq_true,decide_eq_true_eq] at h
    have:=(digOk_parts h.1).1
    omega
  have HD:=Lib.hid (numV_no hd)
  have HQ:=Lib.hid q1
  clear q1 hd h6 hsz
  go_enter Tryz.func108,Tryz.ntmps108
  go_wp2_with fail
  refine (c_within _ _ _ _).mono ?_
  rintro e w' ⟨rfl,rfl⟩
  rw [HQ.out]
  go_wp2_with fail
  go_ret2
  exact ⟨by rw [HD.out];rfl,Below.refl _ _⟩
end Go.Proofs.YthpccmkagikhjaaGreatDoor
namespace Go.Proofs.YthpccmkagikhjaaGreatDoor
set_option linter.unusedVariables false
open Go.RowKit
attribute [local go_sem ↓] Go.wp_at_zero Go.wp_at_succ
theorem split_bs (c:UInt8) (l:List UInt8):Lib.splitB ⟨#[c]⟩ 0 (Lib.countB (bs l) ⟨#[c]⟩) (bs l)=(cutL c l).map bs:=by
 rw [show cutL c l=cutL c (bs l).data.toList from rfl,<- splitB_cut,List.map_map]
 exact (List.map_id _).symm
theorem ZS_get {xs:List (List UInt8)} {k:Nat} (h:k < xs.length):ZS xs k=xs[k]:=by simp [ZS,h]
theorem c_split (l:List UInt8) (hl:l.length<=100000000) (w:World) (hV:LV w w.heap.size) :
  Calls Tryz.prog 97 #[.string (bs l),.string ⟨#[32]⟩] w fun e w'=>e=.returned (.slice (some ⟨w.heap.size,0,none⟩) (cutL 32 l).length (cutL 32 l).length)∧Ss w' w'.heap.size (some ⟨w.heap.size,0,none⟩) (cutL 32 l)∧Below w.heap.size w w':=by
 obtain ⟨-,m,hm⟩:=hV.2.2
 refine (Tryz.strings_Split (bs l) ⟨#[32]⟩ m w (by rw [bs_size];omega) hm (by decide)).mono ?_
 rintro e w' ⟨he,hw⟩
 have hn:Lib.countB (bs l) ⟨#[32]⟩+1=(cutL 32 l).length:=splitB_len 32 (bs l)
 rw [hn] at he
 rw [split_bs] at hw
 refine ⟨he,?_,by rw [hw];exact (Below.refl _ w).alloc (Nat.le_refl _) _⟩
 intro hp
 refine ⟨w.heap.size,0,rfl,by rw [hw];simp,fun k hk=>?_⟩
 rw [hw,Nat.zero_add,cell_of_row _ w.heap.size k _ _ _ (heap_alloc_new _ _)]
 simp [ZS_get hk,hk]
def valsN (ws:List (List UInt8)):List Int:=ws.map fun x=>(valN x:Int)
def namesOk (ws:List (List UInt8)) (n:Nat):Bool:=decide (ws.length=n) && ws.all dig2
theorem valsN_take {ws:List (List UInt8)} {k:Nat} (h:k < ws.length):valsN (ws.take (k+1))=valsN (ws.take k)++[(valN (ZS ws k):Int)]:=by
 rw [ZS_get h,<- List.take_append_getElem h,valsN,valsN,List.map_append];rfl
theorem all2_bad {ws:List (List UInt8)} {k:Nat} (hk:k < ws.length) (h:dig2 (ZS ws k)=false):ws.all dig2=false:=by
 cases e:ws.all dig2 with
 | false=>rfl
 | true=>have:=List.all_eq_true.1 e _ (List.getElem_mem hk);rw [<- ZS_get hk,h] at this;cases this
theorem all2_to {ws:List (List UInt8)} (h:∀ k,k < ws.length->dig2 (ZS ws k)=true):ws.all dig2=true:=List.all_eq_true.2 (fun x hx=>by
 obtain ⟨k,hk,rfl⟩:=List.getElem_of_mem hx
 rw [<- ZS_get hk];exact h k hk)
set_option maxHeartbeats 4000000 in
theorem c_readNumbers (ws:List (List UInt8)) (W:ByteArray) (n:Nat) (A:Option Addr) (c:Nat) (w:World) (hA:Ss w w.heap.size A ws) (hn:ws.length<=1000000000) (hl:∀ k,k < ws.length->(ZS ws k).length<=100000000) (hV:LV w w.heap.size) :
  Calls Tryz.prog 99 #[.agg #[.string W,.int .i64 (n:Int)],.slice A ws.length c] w fun e w'=>(∃ v,e=.returned (.tuple #[v,.bool (namesOk ws n)])∧(namesOk ws n=true->IO w' w.heap.size v (valsN ws)))∧Below w.heap.size w w':=by
 by_cases hq:ws.length=n
 ·subst hq
  have HNo:=Lib.hid (show ws.all dig2=false->namesOk ws ws.length=false from fun h=>by simp [namesOk,h])
  have HYes:=Lib.hid (show ws.all dig2=true->namesOk ws ws.length=true from fun h=>by simp [namesOk,h])
  have HA:=Lib.hid hA
  have HLn:=Lib.hid hl
  have HV:=Lib.hid hV
  have p0:((ws.length:Int) != (ws.length:Int))=false:=by simp
  have hb0:Below w.heap.size w (w.alloc (.cells #[.string W,.int .i64 (ws.length:Int)] 82)):=by (repeat (first | exact rfl | exact Below.refl _ _ | (with_reducible refine Below.drew ?_) | (with_reducible refine Below.drewN ?_ _) | (with_reducible refine Below.alloc ?_ ?_ _) | (with_reducible refine Below.setCell ?_ ?_ _) | (show _<=_;focus (first | omega | (simp;done) | (simp;omega)))))
  clear hA hl hV
  go_enter Tryz.func99,Tryz.ntmps99
  go_wp2_with fail
  go_loopw [6,18] (fun o i wr=>∃ k:Nat,k<=ws.length∧i=.int .i64 k∧Hid (∀ j,j < k->dig2 (ZS ws j)=true)∧IO wr w.heap.size o (valsN (ws.take k))∧Below w.heap.size w wr)
   (fun _ i _=>ws.length - (intOf i).toNat)
  case atStart=>exact ⟨0,by omega,rfl,Lib.hid (fun j hj=>by omega),IO.nil _ _,hb0⟩
  case round =>
   obtain ⟨k,hk,rfl,HN,hown,hb⟩:=hrel
   have hsz:=hb.size
   by_cases hlt:k < ws.length
   ·obtain ⟨b,off,rfl,hlb,hc⟩:=HA.out (by omega)
    have c1:=(hb.cell (p:=⟨b,off+k,none⟩) hlb).trans (hc k hlt)
    have HK:=Lib.hid (c_readNumber (ZS ws k) 2 (by omega) (HLn.out k hlt) wr (HV.out.at hb))
    have hvl:(valsN (ws.take k)).length=k:=by rw [valsN,List.length_map,List.length_take];omega
    have HT:=Lib.hid (valsN_take hlt)
    have HOwn:=Lib.hid hown
    clear hc hown
    cases hz:dig2 (ZS ws k) with
    | false =>
     have HB:=Lib.hid (HNo.out (all2_bad hlt hz))
     have HZ:=Lib.hid (numV_no (l:=ZS ws k) (d:=2) hz)
     clear hz
     go_wp2_with fail
     refine HK.out.mono ?_
     rintro e w5 ⟨rfl,hb5⟩
     rw [HZ.out]
     go_wp2_with fail
     go_ret2
     exact ⟨⟨.slice none 0 0,by rw [HB.out];rfl,fun h=>by rw [HB.out] at h;cases h⟩,hb.trans (hb5.mono hsz)⟩
    | true =>
     have HB:=Lib.hid (show ∀ j,j < k+1->dig2 (ZS ws j)=true from fun j hj=>by
      rcases Nat.lt_succ_iff_lt_or_eq.1 hj with h | rfl
      ·exact HN.out j h
      ·exact hz)
     have HZ:=Lib.hid (numV_yes (l:=ZS ws k) (d:=2) hz)
     clear hz
     go_wp2_with fail
     refine HK.out.mono ?_
     rintro e w5 ⟨rfl,hb5⟩
     rw [HZ.out]
     have hs5:=hb5.size
     have o5:=HOwn.out.below hb5 (Nat.le_refl _)
     have hw5:=hb.trans (hb5.mono hsz)
     go_wp2_with (refine app_I (by rfl) (.tmp 29) (.tmp 31) (by rfl) w.heap.size u6 (valsN (ws.take k)) (valN (ZS ws k):Int) w5.heap.size (by rfl) (o5.alloc _) (by rfl) (heap_alloc_new _ _) (by rw [hvl];omega) (by simp;omega) ?_;intro g cap w6 o6 hgr6 hb6)
     rw [hvl] at o6
     go_roundw
     case rel=>exact ⟨k+1,by omega,by go_num,HB,by rw [HT.out];exact o6,hw5.trans (((Below.refl _ w5).alloc (by omega) _).trans hb6)⟩
     case measure=>simp [intOf];omega
   ·obtain rfl:k=ws.length:=by omega
    rw [List.take_length] at hown
    have HB:=Lib.hid (HYes.out (all2_to HN.out))
    go_wp2_with fail
    go_ret2
    exact ⟨⟨_,by rw [HB.out];rfl,fun _=>hown⟩,hb⟩
 ·have p1:((ws.length:Int) == (n:Int))=false:=beq_eq_false_iff_ne.2 (by omega)
  have p2:((ws.length:Int) != (n:Int))=true:=by simp [bne,p1]
  have HV:=Lib.hid (show namesOk ws n=false by simp [namesOk,hq])
  go_enter Tryz.func99,Tryz.ntmps99
  have hb0:Below w.heap.size w (w.alloc (.cells #[.string W,.int .i64 (n:Int)] 82)):=by (repeat (first | exact rfl | exact Below.refl _ _ | (with_reducible refine Below.drew ?_) | (with_reducible refine Below.drewN ?_ _) | (with_reducible refine Below.alloc ?_ ?_ _) | (with_reducible refine Below.setCell ?_ ?_ _) | (show _<=_;focus (first | omega | (simp;done) | (simp;omega)))))
  go_wp2_with fail
  go_ret2
  exact ⟨⟨.slice none 0 0,by rw [HV.out];rfl,fun h=>by rw [HV.out] at h;cases h⟩,hb0⟩
theorem setRow_below {w W:World} {B g:Nat} (h:Below B w W) (hg:B<=g) (cs:Array Value):Below B w (W.setRow g cs) :=
 ⟨h.os,h.tape,h.output,by rw [setRow_size];exact h.size,fun k hk=>(setRow_other _ _ _ _ (by omega)).trans (h.block k hk)⟩
theorem put3 {w:World} {R:Nat} {t:TypeId} {p q r:Value} (x y z:Value) (h:w.heap[R]?=some (.cells #[p,q,r] t (0,0))) :
  (((w.setCell ⟨R,0,none⟩ x).setCell ⟨R,1,none⟩ y).setCell ⟨R,2,none⟩ z).cell? ⟨R,0,none⟩=some x∧(((w.setCell ⟨R,0,none⟩ x).setCell ⟨R,1,none⟩ y).setCell ⟨R,2,none⟩ z).cell? ⟨R,1,none⟩=some y∧(((w.setCell ⟨R,0,none⟩ x).setCell ⟨R,1,none⟩ y).setCell ⟨R,2,none⟩ z).cell? ⟨R,2,none⟩=some z:=by
 obtain ⟨hlt,he⟩:=Array.getElem?_eq_some_iff.1 h
 have b:(((w.setCell ⟨R,0,none⟩ x).setCell ⟨R,1,none⟩ y).setCell ⟨R,2,none⟩ z).heap[R]?=some (.cells #[x,y,z] t (0,0)):=by
  rw [Array.getElem?_eq_getElem (by simpa [World.setCell] using hlt)]
  simp [World.setCell,Array.getElem_modify,he]
 exact ⟨cell_of_row _ R 0 _ _ _ b,cell_of_row _ R 1 _ _ _ b,cell_of_row _ R 2 _ _ _ b⟩
theorem infoI12:(Tryz.prog.info? 3).map (·.size)=some 1:=by kernel_rfl
set_option maxRecDepth 8000 in
set_option maxHeartbeats 2000000 in
theorem c_deedOf (k:Int) (xs:List Int) (A:Option Addr) (c:Nat) (w:World) (hI:Is w w.heap.size A xs) (hl:xs.length<=2) :
  Calls Tryz.prog 100 #[.int .i64 k,.slice A xs.length c] w fun e w'=>e=.returned (.agg #[.int .i64 k,.int .i64 (Z xs 0),.int .i64 (Z xs 1)])∧Below w.heap.size w w':=by
 obtain ⟨w0,hw0⟩:∃ w0,(w.alloc (.cells #[.int .i64 0,.int .i64 0,.int .i64 0] 39)).alloc (.cells #[.int .i64 0,.int .i64 0] 160)=w0:=⟨_,rfl⟩
 have hb0:Below w.heap.size w w0:=by rw [<- hw0];exact ((Below.refl _ w).alloc (Nat.le_refl _) _).alloc (by simp) _
 have bR:w0.heap[w.heap.size]?=some (.cells #[.int .i64 0,.int .i64 0,.int .i64 0] 39 (0,0)):=by rw [<- hw0];exact (Below.heap_alloc _ _ _ (by simp)).trans (heap_alloc_new _ _)
 have bB:w0.heap[w.heap.size+1]?=some (.cells #[.int .i64 0,.int .i64 0] 160 (0,0)):=by rw [<- hw0];exact newK _ _ _
 have hI0:=hI.below hb0
 obtain ⟨w1,hcp,hb1,b1,bR1⟩:∃ w1,(Builtin.copy_ #[85,85] 3 #[.slice (some ⟨w.heap.size+1,0,none⟩) 2 2,.slice A xs.length c]).run Tryz.prog w0=.ok (goInt (xs.length:Nat)) w1∧Below w.heap.size w w1 ∧
   w1.heap[w.heap.size+1]?=some (.cells #[.int .i64 (Z xs 0),.int .i64 (Z xs 1)] 160 (0,0))∧w1.heap[w.heap.size]?=some (.cells #[.int .i64 0,.int .i64 0,.int .i64 0] 39 (0,0)):=by
  match xs,hl with
  | [],_=>exact ⟨w0,run_copy_none w0 _ _ _ 3 _ _ _ _ _ _ Tryz.underlying85 infoI12 (by simp [Nat.min]),hb0,bB,bR⟩
  | [x],_ =>
   obtain ⟨b,off,rfl,hlt,hc⟩:=hI0 (by simp)
   have h:=run_copy_row Tryz.prog w0 85 85 3 3 (w.heap.size+1) 0 2 2 ⟨b,off,none⟩ 1 c _ _ [.int .i64 x] Tryz.underlying85 infoI12 bB (by simp [Nat.min]) (fun j v hj=>by
    have hj0:j=0:=by have:=(List.getElem?_eq_some_iff.1 hj).1;simpa using this
    subst hj0
    have:=hc 0 (by simp)
    simp at hj
    rw [<- hj]
    simpa [Addr.add,Z] using this) (by simp) (by simp [Value.oneCell'])
   exact ⟨_,h,setRow_below hb0 (by omega) _,setRow_heap _ _ _ _ _ _ bB,(setRow_other _ _ _ _ (by omega)).trans bR⟩
  | [x,y],_ =>
   obtain ⟨b,off,rfl,hlt,hc⟩:=hI0 (by simp)
   have h:=run_copy_row Tryz.prog w0 85 85 3 3 (w.heap.size+1) 0 2 2 ⟨b,off,none⟩ 2 c _ _ [.int .i64 x,.int .i64 y] Tryz.underlying85 infoI12 bB (by simp [Nat.min]) (fun j v hj=>by
    have hj0:j=0∨j=1:=by have:=(List.getElem?_eq_some_iff.1 hj).1;simp at this;omega
    rcases hj0 with rfl | rfl
    ·have:=hc 0 (by simp)
     simp at hj
     rw [<- hj]
     simpa [Addr.add,Z] using this
    ·have:=hc 1 (by simp)
     simp at hj
     rw [<- hj]
     simpa [Addr.add,Z] using this) (by simp) (by simp [Value.oneCell'])
   exact ⟨_,h,setRow_below hb0 (by omega) _,setRow_heap _ _ _ _ _ _ bB,(setRow_other _ _ _ _ (by omega)).trans bR⟩
 have HB1:=Lib.hid hb1
 have HI:=Lib.hid bR1
 obtain ⟨k0,k1⟩:w1.cell? ⟨w.heap.size+1,0,none⟩=some (.int .i64 (Z xs 0))∧w1.cell? ⟨w.heap.size+1,1,none⟩=some (.int .i64 (Z xs 1)):=⟨cell_of_row _ _ 0 _ _ _ b1,cell_of_row _ _ 1 _ _ _ b1⟩
 obtain ⟨r0,r1,r2⟩:w1.cell? ⟨w.heap.size,0,none⟩=some (.int .i64 0)∧w1.cell? ⟨w.heap.size,1,none⟩=some (.int .i64 0)∧w1.cell? ⟨w.heap.size,2,none⟩=some (.int .i64 0):=⟨cell_of_row _ _ 0 _ _ _ bR1,cell_of_row _ _ 1 _ _ _ bR1,cell_of_row _ _ 2 _ _ _ bR1⟩
 obtain ⟨f0,f1,f2⟩:w1.frozen? ⟨w.heap.size,0,none⟩=false∧w1.frozen? ⟨w.heap.size,1,none⟩=false∧w1.frozen? ⟨w.heap.size,2,none⟩=false:=⟨unfrozenB bR1,unfrozenB bR1,unfrozenB bR1⟩
 clear bR bB hI hI0 hb1 b1 bR1
 go_enter Tryz.func100,Tryz.ntmps100
 go_wp2_with fail
 have h3:=put3 (.int .i64 k) (.int .i64 (Z xs 0)) (.int .i64 (Z xs 1)) HI.out
 obtain ⟨m0,m1,m2⟩:=h3
 refine bodyPost_ret (v:=.agg #[.int .i64 k,.int .i64 (Z xs 0),.int .i64 (Z xs 1)]) (by simp [results,Tryz.f100,go_sem,m0,m1,m2]) rfl ?_
 exact ⟨rfl,((HB1.out.setCell (p:=⟨w.heap.size,0,none⟩) (Nat.le_refl _) _).setCell (p:=⟨w.heap.size,1,none⟩) (Nat.le_refl _) _).setCell (p:=⟨w.heap.size,2,none⟩) (Nat.le_refl _) _⟩
end Go.Proofs.YthpccmkagikhjaaGreatDoor
