import Derived.Test.YticccnkanihpnaaDoorQJournalText1
import Derived.Test.YticccnkanihpnaaDoorQJournalText2
import Derived.Test.YticccnkanihpnaaDoorQJournalText3
import Derived.Test.YticccnkanihpnaaDoorQJournalText4
import Derived.Test.YticccnkanihpnaaDoorQJournalText5
import Derived.Test.YticccnkanihpnaaDoorQJournalText6
import Derived.RegionCalls
import Derived.Lib.SliceRun
namespace Go.Proofs.YticccnkanihpnaaDoor
set_option linter.unusedVariables false
open Go.RowKit
def builderRen:Go.Shelf.Ren:=⟨fun | 166=>50 | 167=>51 | 240=>61 | 276=>69 | n=>n,
 fun | 0=>0 | 3=>3 | 4=>4 | 5=>5 | 9=>9 | 20=>20 | 37=>22 | 70=>77 | 72=>79 | 75=>81 | 80=>85 | 164=>101 | n=>n,fun | n=>n⟩
theorem builder_X:Builder.Extra Tryd.prog builderRen:={
 sizeBuilder:=by kernel_rfl
 liesBuilder:=by kernel_rfl
 t5:=Tryd.underlying5
 a5:=Tryd.isAgg5
 z5:=Tryd.sizeOf5
 v5:=Tryd.zeroValue5
 infoByte:=by kernel_rfl
 cellsByte:=by kernel_rfl
 sizeByte:=by kernel_rfl
 neB5:=by decide }
theorem builder_lays166:Go.Proofs.Lays.n166 Tryd.prog builderRen:={
 mixed:=by kernel_rfl
 f166:=Tryd.func50.trans (congrArg some (by kernel_rfl))
 f240:=Tryd.func61.trans (congrArg some (by kernel_rfl))
 f276:=Tryd.func69.trans (congrArg some (by kernel_rfl))
 t0:=Tryd.underlying0
 a0:=Tryd.isAgg0
 z0:=Tryd.sizeOf0
 v0:=Tryd.zeroValue0
 t3:=Tryd.underlying3
 a3:=Tryd.isAgg3
 z3:=Tryd.sizeOf3
 v3:=Tryd.zeroValue3
 t4:=Tryd.underlying4
 a4:=Tryd.isAgg4
 z4:=Tryd.sizeOf4
 v4:=Tryd.zeroValue4
 t9:=Tryd.underlying9
 a9:=Tryd.isAgg9
 z9:=Tryd.sizeOf9
 v9:=Tryd.zeroValue9
 t20:=Tryd.underlying20
 a20:=Tryd.isAgg20
 z20:=Tryd.sizeOf20
 v20:=Tryd.zeroValue20
 t37:=Tryd.underlying22
 a37:=Tryd.isAgg22
 z37:=Tryd.sizeOf22
 v37:=Tryd.zeroValue22
 t70:=Tryd.underlying77
 a70:=Tryd.isAgg77
 z70:=Tryd.sizeOf77
 v70:=Tryd.zeroValue77
 t72:=Tryd.underlying79
 a72:=Tryd.isAgg79
 z72:=Tryd.sizeOf79
 v72:=Tryd.zeroValue79
 t75:=Tryd.underlying81
 a75:=Tryd.isAgg81
 z75:=Tryd.sizeOf81
 v75:=Tryd.zeroValue81
 t164:=Tryd.underlying101
 a164:=Tryd.isAgg101
 z164:=Tryd.sizeOf101
 v164:=Tryd.zeroValue101 }
theorem builder_lays167:Go.Proofs.Lays.n167 Tryd.prog builderRen:={
 mixed:=by kernel_rfl
 f167:=Tryd.func51.trans (congrArg some (by kernel_rfl))
 f240:=Tryd.func61.trans (congrArg some (by kernel_rfl))
 f276:=Tryd.func69.trans (congrArg some (by kernel_rfl))
 t0:=Tryd.underlying0
 a0:=Tryd.isAgg0
 z0:=Tryd.sizeOf0
 v0:=Tryd.zeroValue0
 t4:=Tryd.underlying4
 a4:=Tryd.isAgg4
 z4:=Tryd.sizeOf4
 v4:=Tryd.zeroValue4
 t5:=Tryd.underlying5
 a5:=Tryd.isAgg5
 z5:=Tryd.sizeOf5
 v5:=Tryd.zeroValue5
 t9:=Tryd.underlying9
 a9:=Tryd.isAgg9
 z9:=Tryd.sizeOf9
 v9:=Tryd.zeroValue9
 t20:=Tryd.underlying20
 a20:=Tryd.isAgg20
 z20:=Tryd.sizeOf20
 v20:=Tryd.zeroValue20
 t37:=Tryd.underlying22
 a37:=Tryd.isAgg22
 z37:=Tryd.sizeOf22
 v37:=Tryd.zeroValue22
 t70:=Tryd.underlying77
 a70:=Tryd.isAgg77
 z70:=Tryd.sizeOf77
 v70:=Tryd.zeroValue77
 t72:=Tryd.underlying79
 a72:=Tryd.isAgg79
 z72:=Tryd.sizeOf79
 v72:=Tryd.zeroValue79
 t75:=Tryd.underlying81
 a75:=Tryd.isAgg81
 z75:=Tryd.sizeOf81
 v75:=Tryd.zeroValue81
 t164:=Tryd.underlying101
 a164:=Tryd.isAgg101
 z164:=Tryd.sizeOf101
 v164:=Tryd.zeroValue101 }
theorem c_writeString (B b:Nat) (bs:List Value) (s:ByteArray) (w:World) (h:Lib.IsBuilder 79 5 B b bs w) (hlen:bs.length+s.size<=140737488355328) (hBw:B<=w.heap.size) :
  Calls Tryd.prog 50 #[.pointer (some ⟨b,0,none⟩),.string s] w fun e w'=>e=.returned (.tuple #[.int .i64 s.size,.nilIface])∧(Lib.BuilderAt 79 5 B b (.pointer (some ⟨b,0,none⟩)) (bs++Lib.strCells s) w'∧Below B w w'):=Any.Builder_WriteString builder_lays166 builder_X B b bs s w h hlen hBw
theorem c_writeByte (B b:Nat) (bs:List Value) (c:Int) (w:World) (h:Lib.IsBuilder 79 5 B b bs w) (hlen:bs.length+1<=140737488355328) (hBw:B<=w.heap.size) :
  Calls Tryd.prog 51 #[.pointer (some ⟨b,0,none⟩),.int .u8 c] w fun e w'=>e=.returned .nilIface∧(Lib.BuilderAt 79 5 B b (.pointer (some ⟨b,0,none⟩)) (bs++[.int .u8 c]) w'∧Below B w w'):=Any.Builder_WriteByte builder_lays167 builder_X B b bs c w h hlen hBw
end Go.Proofs.YticccnkanihpnaaDoor
namespace Go.Proofs.YticccnkanihpnaaDoor
set_option linter.unusedVariables false
open Go.RowKit
attribute [local go_sem ↓] Go.wp_at_zero Go.wp_at_succ
abbrev BuilderIs (w:World) (B b:Nat) (t:List UInt8):Prop:=Lib.IsBuilder 79 5 B b (Lib.byteCells t) w
theorem builder_at {T e:TypeId} {B b:Nat} {p:Value} {xs:List Value} {w w':World} (h:Lib.BuilderAt T e B b p xs w) {H:Nat} (hb:Below H w w') (hH:w.heap.size<=H):Lib.BuilderAt T e B b p xs w':=by
 have hlt:=h.lt
 obtain ⟨h1,v,h2,h3,h4⟩:=h
 exact ⟨h1,v,(hb.block b (by omega)).trans h2,owns_below h3 hb hH,h4⟩
theorem builder_below {T e:TypeId} {B b:Nat} {xs:List Value} {w w':World} (h:Lib.IsBuilder T e B b xs w) {H:Nat} (hb:Below H w w') (hH:w.heap.size<=H):Lib.IsBuilder T e B b xs w':=by
 rcases h with h | h
 ·exact .inl (builder_at h hb hH)
 ·exact .inr (builder_at h hb hH)
theorem bytes_app (x y:List UInt8):Lib.byteCells x++Lib.byteCells y=Lib.byteCells (x++y):=by simp [Lib.byteCells]
theorem bytes_len (x:List UInt8):(Lib.byteCells x).length=x.length:=by simp [Lib.byteCells]
set_option maxRecDepth 8000 in
set_option maxHeartbeats 4000000 in
theorem c_iJournalText (L:List DV) (A:Option Addr) (c:Nat) (w:World) (hE:Ds3 w w.heap.size A L) (hcap:L.length<=c) (hn:L.length<=100000000) :
  Calls Tryd.prog 18 #[.slice A L.length c] w fun e w'=>e=.returned (.string (bs (journalL L)))∧Below w.heap.size w w':=by
 obtain ⟨w0,hw0⟩:∃ w0,w.alloc (.cells #[.pointer none,.slice none 0 0] 79)=w0:=⟨_,rfl⟩
 have hb0:Below w.heap.size w w0:=by rw [<- hw0];exact (Below.refl _ w).alloc (Nat.le_refl _) _
 have bl0:BuilderIs w0 w.heap.size w.heap.size []:=by
  rw [<- hw0]
  exact .inl ⟨Nat.le_refl _,_,heap_alloc_new _ _,⟨rfl,.inl ⟨rfl,rfl⟩⟩,by simp [Value.ownBlock]⟩
 have HE:=Lib.hid hE
 have HLn:=Lib.hid (fun k=>jTo_len (L.take k))
 have HB:=Lib.hid (fun k (hk:k < L.length)=>jOk_bad hk)
 clear hE
 go_enter Tryd.func18,Tryd.ntmps18
 go_wp2_with fail
 clear hw0
 go_loopw [9] (fun i wr=>∃ k:Nat,k<=L.length∧i=.int .i64 (k:Int)∧Hid (jOk (L.take k)=true)∧BuilderIs wr w.heap.size w.heap.size (jTo (L.take k))∧Below w.heap.size w wr) (fun i _=>L.length - (intOf i).toNat)
 case atStart=>exact ⟨0,by omega,rfl,rfl,bl0,hb0⟩
 case round =>
  clear bl0 hb0
  obtain ⟨k,hk,rfl,hok,bl,hb⟩:=hrel
  have hsz:=hb.size
  by_cases hlt:k < L.length
  ·obtain ⟨b,off,rfl,hlb,hc⟩:=HE.out (by omega)
   obtain ⟨y0,y1,y2⟩:=hc k hlt
   have d0:=(hb.cell (p:=⟨b,off+k * 3,none⟩) hlb).trans y0
   have d1:=(hb.cell (p:=⟨b,off+k * 3+1,none⟩) hlb).trans y1
   have d2:=(hb.cell (p:=⟨b,off+k * 3+2,none⟩) hlb).trans y2
   clear hc y0 y1 y2
   have p1:(0:Int)<=(k:Int):=by omega
   have p2:(k:Int) < (L.length:Int):=by omega
   have HT:=Lib.hid (jTake L hlt)
   have hl:=HLn.out k
   rw [List.length_take] at hl
   have hl2:=deedL_le (ZD L k)
   have HBk:=Lib.hid (HB.out k hlt)
   obtain ⟨⟨dk,da,db⟩,hd⟩:∃ d,ZD L k=d:=⟨_,rfl⟩
   rw [hd] at d0 d1 d2 hl2 HBk HT
   have HC:=Lib.hid (fun W=>c_iDeedText dk da db W)
   have hbA:Below wr.heap.size wr (wr.alloc (.cells #[.int .i64 dk,.int .i64 da,.int .i64 db] 24)):=(Below.refl _ wr).alloc (Nat.le_refl _) _
   clear hd
   by_cases he:deedL ⟨dk,da,db⟩=[]
   ·have hq:((bs (deedL ⟨dk,da,db⟩)).toList == [])=true:=by rw [bs_list,he];rfl
    have hq1:(bs (deedL ⟨dk,da,db⟩)).toList=[]:=by rw [bs_list,he]
    have hq2:(bs (deedL ⟨dk,da,db⟩)).toList.isEmpty=true:=by rw [hq1];rfl
    have HV:=Lib.hid (HBk.out he)
    clear he hl hl2
    go_wp2_with fail
    refine (HC.out _).mono ?_
    rintro e w5 ⟨rfl,hb5⟩
    go_wp2_with fail
    go_ret
    exact ⟨by rw [HV.out];rfl,hb.trans ((hbA.trans (hb5.mono hbA.size)).mono hsz)⟩
   ·have hq1:¬ (bs (deedL ⟨dk,da,db⟩)).toList=[]:=by rw [bs_list];exact he
    have hq2:(bs (deedL ⟨dk,da,db⟩)).toList.isEmpty=false:=by simpa using hq1
    have HJ:=Lib.hid (show jOk (L.take (k+1))=true by rw [HT.out,jOk_snoc,hok.out];simpa using he)
    have HS:=Lib.hid (show Lib.byteCells (jTo (L.take k))++Lib.byteCells (deedL ⟨dk,da,db⟩)++[.int .u8 10]=Lib.byteCells (jTo (L.take (k+1))) by
     rw [HT.out,jTo_snoc,bytes_app,show ([.int .u8 10]:List Value)=Lib.byteCells [10] from rfl,bytes_app])
    have HWs:=Lib.hid (fun (W:World) (hW:BuilderIs W w.heap.size w.heap.size (jTo (L.take k))) (hz:w.heap.size<=W.heap.size)=>c_writeString w.heap.size w.heap.size (Lib.byteCells (jTo (L.take k))) (bs (deedL ⟨dk,da,db⟩)) W hW (by rw [bytes_len,bs_size];omega) hz)
    have HWb:=Lib.hid (fun (W:World) (hW:Lib.IsBuilder 79 5 w.heap.size w.heap.size (Lib.byteCells (jTo (L.take k))++Lib.byteCells (deedL ⟨dk,da,db⟩)) W) (hz:w.heap.size<=W.heap.size)=>c_writeByte w.heap.size w.heap.size (Lib.byteCells (jTo (L.take k))++Lib.byteCells (deedL ⟨dk,da,db⟩)) 10 W hW (by rw [bytes_app,bytes_len,List.length_append];omega) hz)
    clear he hl hl2 HBk HT
    go_wp2_with fail
    refine (HC.out _).mono ?_
    rintro e w5 ⟨rfl,hb5⟩
    have hx5:=hbA.trans (hb5.mono hbA.size)
    have bl5:=builder_below bl hx5 (Nat.le_refl _)
    have hw5:=hb.trans (hx5.mono hsz)
    clear d0 d1 d2 bl hb5
    go_wp2_with fail
    refine (HWs.out _ bl5 hw5.size).mono ?_
    rintro e w6 ⟨rfl,bl6,hb6⟩
    have hw6:=hw5.trans hb6
    go_wp2_with fail
    refine (HWb.out _ (.inr bl6) hw6.size).mono ?_
    rintro e w7 ⟨rfl,bl7,hb7⟩
    rw [HS.out] at bl7
    go_wp2_with fail
    go_roundw
    case rel=>exact ⟨k+1,by omega,by go_num,HJ,.inr bl7,hw6.trans hb7⟩
    case measure=>simp [intOf];omega
  ·have p2:¬ (k:Int) < (L.length:Int):=by omega
   obtain rfl:k=L.length:=by omega
   rw [List.take_length] at hok bl
   have HV:=Lib.hid (show journalL L=jTo L from if_pos hok.out)
   have HC:=Lib.hid (Tryd.Builder_String_any w.heap.size w.heap.size (jTo L) wr bl hsz)
   clear bl
   go_wp2_with fail
   refine HC.out.mono ?_
   rintro e w5 ⟨rfl,hb5⟩
   go_wp2_with fail
   go_ret
   exact ⟨by rw [HV.out];rfl,hb.trans hb5⟩
theorem c_cut10 (t:List UInt8) (ht:t.length<=100000000) (w:World) (hV:LV w w.heap.size) :
  Calls Tryd.prog 53 #[.string (bs t),.string ⟨#[10]⟩] w fun e w'=>e=.returned (.tuple #[.string (bs (Lib.cut t [10]).1),.string (bs (Lib.cut t [10]).2.1),.bool (Lib.cut t [10]).2.2])∧Below w.heap.size w w':=by
 obtain ⟨-,m,hm⟩:=hV.2.2
 refine (Tryd.strings_Cut (bs t) ⟨#[10]⟩ m w (by rw [bs_size];omega) hm).mono ?_
 rintro e w' ⟨he,n,hw⟩
 exact ⟨he,by rw [hw];exact Below.drewN (Below.refl _ w) n⟩
theorem drop_bs (l:List UInt8) (n:Nat):(bs l).extract n (bs l).size=bs (l.drop n):=by
 apply ByteArray.ext
 apply Array.ext'
 rw [Lib.extract_to_end]
 rfl
set_option maxRecDepth 8000 in
set_option maxHeartbeats 4000000 in
theorem c_iReadJournal (s:ByteArray) (hs:s.size<=100000000) (w:World) (hV:LV w w.heap.size) :
  Calls Tryd.prog 20 #[.string s] w fun e w'=>∃ v,e=.returned (.tuple #[v,.int .i64 ((jS s.data.toList).n:Int)])∧EO w' w.heap.size v (jS s.data.toList).ds∧Below w.heap.size w w':=by
 obtain ⟨l,rfl⟩:∃ l,s=bs l:=⟨s.data.toList,rfl⟩
 have hl:l.length<=100000000:=by rw [bs_size] at hs;exact hs
 show Calls Tryd.prog 20 #[.string (bs l)] w fun e w'=>∃ v,e=.returned (.tuple #[v,.int .i64 ((jS l).n:Int)])∧EO w' w.heap.size v (jS l).ds∧Below w.heap.size w w'
 have HSz:=Lib.hid (bs_size l)
 have HV:=Lib.hid hV
 have HCut:=Lib.hid (fun (n:Nat) (W:World) (hb:Below w.heap.size w W)=>c_cut10 (l.drop n) (by rw [List.length_drop];omega) W (hV.at hb))
 have HRd:=Lib.hid (fun (x:List UInt8) (hx:x.length<=100000000) (W:World) (hb:Below w.heap.size w W)=>c_iReadDeed x hx W (hV.at hb))
 clear hs hV
 go_enter Tryd.func20,Tryd.ntmps20
 go_wp2_with fail
 go_loopw [4,5] (fun v i wr=>∃ (n:Nat) (ds:List DV),n<=l.length∧i=.int .i64 (n:Int)∧Hid (jS (l.take n)=⟨false,ds,n,[]⟩)∧EO wr w.heap.size v ds∧ds.length<=n∧Below w.heap.size w wr) (fun _ i _=>l.length - (intOf i).toNat)
 case atStart=>exact ⟨0,[],by omega,rfl,rfl,EO.nil _ _,by simp,Below.refl _ _⟩
 case round =>
  obtain ⟨n,ds,hn,rfl,hj,own,hdn,hb⟩:=hrel
  have p1:(0:Int)<=(n:Int):=by omega
  have p2:(n:Int)<=((bs l).size:Int):=by rw [HSz.out];omega
  have p3:n<=(bs l).size:=by rw [HSz.out];omega
  have hx:=drop_bs l n
  have HC:=Lib.hid (HCut.out n wr hb)
  have hdl:(l.drop n).length=l.length - n:=List.length_drop
  rcases split_at 10 (l.drop n) with hno | ⟨a,b,hab,ha⟩
  ·have HT:=Lib.hid (cutC_none hno)
   have HE:=Lib.hid (jline_end hj.out hno)
   have HR:=Lib.hid (fun W hb=>HRd.out (l.drop n) (by omega) W hb)
   clear hno
   go_wp2_with fail
   refine HC.out.mono ?_
   rintro e w1 ⟨rfl,hb1⟩
   rw [HT.out]
   have hw1:=hb.trans (hb1.mono hb.size)
   have HO1:=Lib.hid (own.below hb1 (Nat.le_refl _))
   clear own hx hb1
   go_wp2_with fail
   refine (HR.out _ hw1).mono ?_
   rintro e w2 ⟨rfl,hb2⟩
   have hz1:=hw1.size
   obtain ⟨k,a,b,q,hrv⟩:∃ k a b q,readV (readD (l.drop n))=.tuple #[.agg #[.int .i64 k,.int .i64 a,.int .i64 b],.bool q]:=by
    cases readD (l.drop n) with
    | none=>exact ⟨_,_,_,_,rfl⟩
    | some d=>exact ⟨_,_,_,_,rfl⟩
   rw [hrv]
   clear hrv
   have hx3:Below w1.heap.size w1 (w2.alloc (.cells #[.int .i64 k,.int .i64 a,.int .i64 b] 24)):=hb2.alloc hb2.size _
   have HF:=Lib.hid (HO1.out.below hx3 (Nat.le_refl _))
   have HW:=Lib.hid (hw1.trans (hx3.mono hz1))
   clear hb2 hx3 hw1
   go_wp2_with fail
   go_ret2
   exact ⟨_,by rw [HE.out.2];rfl,by rw [HE.out.1];exact HF.out,HW.out⟩
  ·have HT:=Lib.hid (show Lib.cut (l.drop n) [10]=(a,b,true) by rw [hab];exact cutC_at b ha)
   have hla:n+a.length+1<=l.length:=by
    have h1:(l.drop n).length=a.length+1+b.length:=by rw [hab];simp;omega
    omega
   have HR:=Lib.hid (fun W hb=>HRd.out a (by omega) W hb)
   have HSa:=Lib.hid (bs_size a)
   cases hrd:readD a with
   | none =>
    have HE:=Lib.hid (jline_bad hj.out hab ha hrd)
    have HRv:=Lib.hid (show readV (readD a)=.tuple #[.agg #[.int .i64 0,.int .i64 0,.int .i64 0],.bool false] by rw [hrd];rfl)
    clear hab ha hrd hdl
    go_wp2_with fail
    refine HC.out.mono ?_
    rintro e w1 ⟨rfl,hb1⟩
    rw [HT.out]
    have hw1:=hb.trans (hb1.mono hb.size)
    have HO1:=Lib.hid (own.below hb1 (Nat.le_refl _))
    clear own hx hb1
    go_wp2_with fail
    refine (HR.out _ hw1).mono ?_
    rintro e w2 ⟨rfl,hb2⟩
    have hz1:=hw1.size
    rw [HRv.out]
    have hx3:Below w1.heap.size w1 (w2.alloc (.cells #[.int .i64 0,.int .i64 0,.int .i64 0] 24)):=hb2.alloc hb2.size _
    have HF:=Lib.hid (HO1.out.below hx3 (Nat.le_refl _))
    have HW:=Lib.hid (hw1.trans (hx3.mono hz1))
    clear hb2 hx3 hw1
    go_wp2_with fail
    go_ret2
    exact ⟨_,by rw [HE.out.2];rfl,by rw [HE.out.1];exact HF.out,HW.out⟩
   | some d =>
    obtain ⟨dk,da,db⟩:=d
    have HE:=Lib.hid (jline_ok hj.out hab ha hrd hn)
    have HRv:=Lib.hid (show readV (readD a)=.tuple #[.agg #[.int .i64 dk,.int .i64 da,.int .i64 db],.bool true] by rw [hrd];rfl)
    have q1:IntKind.i64.wrap (((bs a).size:Int)+1)=((bs a).size:Int)+1:=IntWalk.i64_in _ (by rw [HSa.out];omega)
    have q2:IntKind.i64.wrap ((n:Int)+(((bs a).size:Int)+1))=(n:Int)+(((bs a).size:Int)+1):=IntWalk.i64_in _ (by rw [HSa.out];omega)
    clear hab ha hrd hdl
    go_wp2_with fail
    refine HC.out.mono ?_
    rintro e w1 ⟨rfl,hb1⟩
    rw [HT.out]
    have hw1:=hb.trans (hb1.mono hb.size)
    have HO1:=Lib.hid (own.below hb1 (Nat.le_refl _))
    clear own hx hb1
    go_wp2_with fail
    refine (HR.out _ hw1).mono ?_
    rintro e w2 ⟨rfl,hb2⟩
    have hz1:=hw1.size
    have hz2:=hb2.size
    rw [HRv.out]
    have hx3:Below w1.heap.size w1 (w2.alloc (.cells #[.int .i64 dk,.int .i64 da,.int .i64 db] 24)):=hb2.alloc hb2.size _
    have HF:=Lib.hid (HO1.out.below hx3 (Nat.le_refl _))
    have HW:=Lib.hid (hw1.trans (hx3.mono hz1))
    have HL:=Lib.hid (show ds.length<=1000000000000 by omega)
    have hzw:w.heap.size<=w2.heap.size:=by omega
    clear hb2 hx3 hw1
    go_wp2_with (refine app_E (by rfl) (.tmp 32) (.tmp 34) (by rfl) w.heap.size u4 ds dk da db (w2.alloc (.cells #[.int .i64 dk,.int .i64 da,.int .i64 db] 24)).heap.size (by rfl) (HF.out.alloc _) ?_ ?_ HL.out ?_ ?_;(simp;rfl);exact (heap_alloc_new _ _);(simp;omega);intro g cap w6 o6 hgr6 hb6)
    have HW6:=Lib.hid (HW.out.trans ((((Below.refl _ (w2.alloc (.cells #[.int .i64 dk,.int .i64 da,.int .i64 db] 24))).alloc (show w.heap.size<=(w2.alloc (.cells #[.int .i64 dk,.int .i64 da,.int .i64 db] 24)).heap.size by simp;omega) _)).trans hb6))
    have HO6:=Lib.hid o6
    have HZ:=Lib.hid (show (n:Int)+(((bs a).size:Int)+1)=((n+a.length+1:Nat):Int) by rw [HSa.out];omega)
    clear o6 hgr6 hb6
    go_wp2_with fail
    go_roundw
    case rel=>exact ⟨n+a.length+1,ds++[⟨dk,da,db⟩],hla,by rw [HZ.out],HE,by simpa using HO6.out,by simp;omega,HW6.out⟩
    case measure=>(simp [intOf];rw [HSa.out];omega)
end Go.Proofs.YticccnkanihpnaaDoor
namespace Go.Proofs.YticccnkanihpnaaDoor
set_option linter.unusedVariables false
open Go.RowKit
attribute [local go_sem ↓] Go.wp_at_zero Go.wp_at_succ
set_option maxRecDepth 8000 in
set_option maxHeartbeats 4000000 in
theorem w_FnJournalText (A:Option Addr) (n c:Nat) (w:World) (h:Bs w w.heap.size A n) (hc:n<=c) (hV:LV w w.heap.size) :
  Calls Tryd.prog 5 #[.slice A n c] w fun e w'=>e=.returned (.bool true)∧Below w.heap.size w w':=by
 by_cases hn:n<=1048576
 ·go_enter Tryd.func5,Tryd.ntmps5
  go_wp2_with fail
  refine (c_DrawJournalText A n c _ h hn hc).mono ?_
  rintro e w1 ⟨v,ds,rfl,o1,hl1,hb1⟩
  obtain ⟨A1,c1,rfl,hc1,-,hE1⟩:=o1.form
  have hs1:=hb1.size
  have HI:=Lib.hid (c_iJournalText ds A1 c1 w1 hE1 hc1 (by omega))
  have HS:=Lib.hid (fun W (hb:Below w1.heap.size w1 W)=>c_sJournalText ds A1 c1 W ((hE1.below hb).more hb.size) (by omega))
  have HE:=Lib.hid hE1
  have hl:(journalL ds).length<=200:=by
   unfold journalL
   split
   ·have:=jTo_len ds;omega
   ·simp
  have HJ:Hid (journalL ds≠[]->jS (journalL ds)=⟨false,ds,(journalL ds).length,[]⟩):=Lib.hid (fun hne=>by
   by_cases hj:jOk ds=true
   ·rw [journalL,if_pos hj];exact jS_journal _ ds rfl hj
   ·exact absurd (by rw [journalL,if_neg hj]) hne)
  have HVV:=Lib.hid hV
  have HLd:=Lib.hid (show ds.length<=140737488351232 by omega)
  clear h o1 hE1 hl1
  generalize journalL ds=l at *
  go_wp2_with fail
  refine HI.out.mono ?_
  rintro e w2 ⟨rfl,hb2⟩
  have hs2:=hb2.size
  have hne:((bs l).toList != (bs l).toList)=false:=by simp
  have hne2:((bs l).toList == (bs l).toList)=true:=by simp
  go_wp2_with fail
  refine (HS.out _ hb2).mono ?_
  rintro e w3 ⟨rfl,hb3⟩
  have hx3:=hb2.trans (hb3.mono hs2)
  have hx3':=hb1.trans (hx3.mono hs1)
  by_cases hl0:l=[]
  ·have h0:(bs l).toList.isEmpty=true:=by rw [bs_list,hl0];rfl
   have h00:(bs l).toList=[]:=by rw [bs_list,hl0]
   clear hl0
   go_wp2_with fail
   refine (c_alive _).mono ?_
   rintro e w5 ⟨rfl,hb5⟩
   go_wp2_with fail
   go_ret
   exact ⟨rfl,hx3'.trans (hb5.mono hx3'.size)⟩
  ·have h0:(bs l).toList.isEmpty=false:=by rw [bs_list];cases l with | nil=>exact (hl0 rfl).elim | cons x y=>rfl
   have h00:¬ (bs l).toList=[]:=by rw [bs_list];exact hl0
   have HR:=Lib.hid (fun W (hW:LV W W.heap.size)=>show Calls Tryd.prog 20 #[.string (bs l)] W fun e w'=>∃ v,e=.returned (.tuple #[v,.int .i64 (l.length:Int)])∧EO w' W.heap.size v ds∧Below W.heap.size W w' from by
    have K:=c_iReadJournal (bs l) (by rw [bs_size];omega) W hW
    have e:(bs l).data.toList=l:=rfl
    rw [e,HJ.out hl0] at K
    exact K)
   have HZ:=Lib.hid (bs_size l)
   clear hl0 hl
   have HR3:=Lib.hid (HR.out _ (HVV.out.at hx3'))
   go_wp2_with fail
   refine HR3.out.mono ?_
   rintro e w5 ⟨v5,rfl,o5,hb5⟩
   obtain ⟨A5,c5,rfl,-,-,hE5⟩:=o5.form
   have hs5:=hb5.size
   have hx5:=hx3.trans (hb5.mono hx3.size)
   have HQ:=Lib.hid (c_sameDeeds ds ds A5 A1 w5.heap.size w5.heap.size c5 c1 w5 hE5 ((HE.out.below hx5).more hx5.size) HLd.out HLd.out)
   rw [decide_eq_true (rfl:ds=ds)] at HQ
   have hzz:((l.length:Int) == ((bs l).size:Int))=true:=by rw [HZ.out];simp
   clear o5 hE5
   go_wp2_with fail
   refine HQ.out.mono ?_
   rintro e w6 ⟨rfl,hb6⟩
   go_wp2_with fail
   go_ret
   exact ⟨rfl,hb1.trans ((hx5.trans (hb6.mono hx5.size)).mono hs1)⟩
 ·have hn':(1048576:Int) < (n:Int):=by omega
  go_enter Tryd.func5,Tryd.ntmps5
  go_wp2_with fail
  go_ret
  exact ⟨rfl,Below.refl _ _⟩
end Go.Proofs.YticccnkanihpnaaDoor
