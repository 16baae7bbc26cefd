import Derived.Test.YtobjpljdgieklaaGreatDoorJ10
import Derived.Test.YtobjpljdgieklaaGreatDoorJ5
import Derived.Deep.RegionHeld3
import Derived.Deep.DrawnRows
import Derived.Deep.QuietTactic
import Derived.BigQuiet
import Derived.Test.YtobjpljdgieklaaGreatDoorJ1
set_option maxRecDepth 100000
namespace Go.Proofs.YtobjpljdgieklaaGreatDoor
section
open Go.RowKit Nums
theorem Made.row{B:Nat}{w:World}{v:Value}{xs:List Int}(h:Made B w v xs):Row w v xs:=by
 obtain⟨hl,hn|⟨g,cap,cur,rfl,hb,hg,h1,h2,h3,h4⟩⟩:=h
 · obtain⟨rfl,h0⟩:=hn
   refine⟨none,0,by rw[h0],fun h=>by omega⟩
 · refine⟨_,_,rfl,fun _=>⟨g,0,rfl,fun i hi=>?_⟩⟩
   have hc:cur[i]?=some (.int .i32 (xs.getD i 0)):=by
    (have e:(cur.toList.take (xs.length*1))[i]?=(xs.map (Value.int .i32))[i]?:=by rw[h4]);rw[List.getElem?_take,if_pos (by omega)]at e;rw[←Array.getElem?_toList,e,List.getElem?_map,List.getElem?_eq_getElem hi];simp[List.getD_eq_getElem?_getD,List.getElem?_eq_getElem hi]
   simp only[World.cell?,hg,Nat.zero_add];simpa using hc
theorem Row.below{w w':World}{v:Value}{xs:List Int}(h:Row w v xs)(hb:Below w.heap.size w w'):Row w' v xs:=by
 obtain⟨ao,cap,rfl,hc⟩:=h;refine⟨ao,cap,rfl,fun h0=>?_⟩;obtain⟨b,off,rfl,hd⟩:=hc h0;exact⟨b,off,rfl,fun i hi=>(hb.cell (p:=⟨b,off+i,none⟩) (zAq (hd i hi))).trans (hd i hi)⟩
end
namespace Nums
def sd(l:List UInt8)(n:Nat):Int:=
 if n=1 then bt l 0 else if n=2 then bt l 0%32*64+bt l 1%64
 else if n=3 then (bt l 0%16*64+bt l 1%64)*64+bt l 2%64
 else ((bt l 0%8*64+bt l 1%64)*64+bt l 2%64)*64+bt l 3%64
theorem sd1(l:List UInt8):sd l 1=bt l 0:=rfl
theorem sd2(l:List UInt8):sd l 2=bt l 0%32*64+bt l 1%64:=rfl
theorem sd3(l:List UInt8):sd l 3=(bt l 0%16*64+bt l 1%64)*64+bt l 2%64:=rfl
theorem sd4(l:List UInt8):sd l 4=((bt l 0%8*64+bt l 1%64)*64+bt l 2%64)*64+bt l 3%64:=rfl
theorem rd_zero{l:List UInt8}(h:(rd l).2=0):rd l=(0,0):=by
 revert h;unfold rd;by_cases c1:bt l 0<128
 · rw[if_pos c1];intro h;cases h
 rw[if_neg c1]
 split
 · intro h;cases h
 split
 · intro h;cases h
 split
 · intro h;cases h
 intro _;rfl
theorem rd_said{l:List UInt8}(h:(rd l).2≠0):(rd l).1=sd l (rd l).2:=by
 have c0:=zXf l 0;revert h;unfold rd;by_cases c1:bt l 0<128
 · rw[if_pos c1];intro _;exact(sd1 l).symm
 rw[if_neg c1]
 split
 · rename_i c;intro _
   show acc 192 l 2=sd l 2;rw[acc2,sd2];omega
 split
 · rename_i c;intro _
   show acc 224 l 3=sd l 3;rw[acc3,sd3];omega
 split
 · rename_i c;intro _
   show acc 240 l 4=sd l 4;rw[acc4,sd4];omega
 intro h;exact absurd rfl h
theorem zWh{l:List UInt8}{n:Nat}(hn:n≤l.length)(hr:isR (sd l n)=true)(hw:wr (sd l n)=l.take n):rd l=(sd l n,n):=by
 have h:=rd_wr hr (l.drop n);rw[hw,List.take_append_drop]at h;rw[h];have:(wr (sd l n)).length=(l.take n).length:=by rw[hw]
 rw[zL2,List.length_take]at this;rw[this,Nat.min_eq_left hn]
theorem zQ7{l:List UInt8}(hl:l≠[]){n:Nat}(h1:1≤n)(h:¬(isR (sd l n)=true∧wr (sd l n)=l.take n)):(rd l).2≠n:=by
 intro e;have h0:(rd l).2≠0:=by omega
 have hs:=rd_said h0;rw[e]at hs;obtain⟨hr,hlen,hb⟩:=zUd hl (r:=sd l n) (n:=n) (Prod.ext hs e) (by omega);refine h ⟨hr,?_⟩;have e2:l.take n=(wr (sd l n)++l.drop n).take n:=congrArg (List.take n) hb;rw[e2,List.take_append_of_le_length (by rw[zL2];omega),List.take_of_length_le (by rw[zL2];omega)]
theorem sd_bd(l:List UInt8)(n:Nat):0≤sd l n∧sd l n<2097152:=by
 have c0:=zXf l 0;unfold sd;by_cases h1:n=1
 · rw[if_pos h1];omega
 rw[if_neg h1];by_cases h2:n=2
 · rw[if_pos h2];omega
 rw[if_neg h2];by_cases h3:n=3
 · rw[if_pos h3];omega
 rw[if_neg h3];omega
end Nums
section
open Go.RowKit Nums
attribute [local go_sem ↓] Go.wp_at_zero Go.wp_at_succ
set_option maxHeartbeats 400000 in
theorem Rune_any(r:Int)(w:World):Calls Tryz.prog 149 #[.int .i64 r] w fun e w'=>e = .returned (.bool (isR r))∧w'=w:=by
 by_cases h0:0≤r
 · by_cases h1:r≤1114111
   · by_cases h2:r<55296
     · go_enter Tryz.func149,Tryz.ntmps149
       go_wp2;go_ret;exact⟨zB7 (by first|(rw[zEy (by omega)])|(rw[zEe (by omega)])),rfl⟩
     · by_cases h3:57343<r
       all_goals
        go_enter Tryz.func149,Tryz.ntmps149;go_wp2;go_ret;exact⟨zB7 (by first|(rw[zEy (by omega)])|(rw[zEe (by omega)])),rfl⟩
   · go_enter Tryz.func149,Tryz.ntmps149
     go_wp2;go_ret;exact⟨zB7 (by first|(rw[zEy (by omega)])|(rw[zEe (by omega)])),rfl⟩
 · go_enter Tryz.func149,Tryz.ntmps149
   go_wp2;go_ret;exact⟨zB7 (by first|(rw[zEy (by omega)])|(rw[zEe (by omega)])),rfl⟩
theorem zHg(w:World)(xs:List Int)(n:Nat)(hn:xs.length=n):
 (convert 68 9 (.slice (some ⟨w.heap.size,0,none⟩) n n)).run Tryz.prog (w.alloc (.cells (xs.map (Value.int .u8)).toArray 5)) = .ok (.string (strOfNums xs)) (w.alloc (.cells (xs.map (Value.int .u8)).toArray 5)):=by
 refine run_convert_bytes_arg _ 68 5 Tryz.underlying68 Tryz.underlying5 w.heap.size 0 n n xs hn (fun i hi=>?_) 9 Tryz.underlying9;rw[Nat.zero_add,World.cell?_alloc_new];subst hn;simp[List.getD_eq_getElem?_getD,List.getElem?_eq_getElem hi]
set_option maxHeartbeats 1000000 in
theorem zNs(r:Int)(w:World)(hr:isR r=true):Calls Tryz.prog 150 #[.int .i64 r] w fun e w'=>e = .returned (.string (strOfNums (wrI r)))∧Below w.heap.size w w':=by
 have hbd:=zVu hr;clear hr;by_cases a:r<128
 · have h:=zHg w [r] 1 rfl
   simp only[List.map]at h;have HW:Hid (wrI r=[r]):=wrI1 a;go_enter Tryz.func150,Tryz.ntmps150;go_wp2;go_ret;exact⟨by rw[HW.out];rfl,(Below.refl _ _).alloc (Nat.le_refl _) _⟩
 by_cases b:r<2048
 · have h:=zHg w [192+r/64,128+r%64] 2 rfl
   simp only[List.map]at h;have HW:Hid (wrI r=[192+r/64,128+r%64]):=wrI2 (by omega) b;go_enter Tryz.func150,Tryz.ntmps150;go_wp2;go_ret;exact⟨by rw[HW.out];rfl,(Below.refl _ _).alloc (Nat.le_refl _) _⟩
 by_cases c:r<65536
 · have h:=zHg w [224+r/4096,128+r/64%64,128+r%64] 3 rfl
   simp only[List.map]at h;have HW:Hid (wrI r=[224+r/4096,128+r/64%64,128+r%64]):=by
    show wrI r=_;rw[wrI3 (by omega) c,show r/64/64=r/4096 by omega]
   go_enter Tryz.func150,Tryz.ntmps150;go_wp2;go_ret;exact⟨by rw[HW.out];rfl,(Below.refl _ _).alloc (Nat.le_refl _) _⟩
 · have h:=zHg w [240+r/262144,128+r/4096%64,128+r/64%64,128+r%64] 4 rfl
   simp only[List.map]at h;have HW:Hid (wrI r=[240+r/262144,128+r/4096%64,128+r/64%64,128+r%64]):=by
    show wrI r=_;rw[wrI4 (by omega),show r/64/64/64=r/262144 by omega,show r/64/64=r/4096 by omega]
   go_enter Tryz.func150,Tryz.ntmps150;go_wp2;go_ret;exact⟨by rw[HW.out];rfl,(Below.refl _ _).alloc (Nat.le_refl _) _⟩
theorem zC2(s:ByteArray)(i:Nat)(h:i<s.size):((s[i]'h).toNat:Int)<256:=by have:=(s[i]'h).toNat_lt;omega
set_option maxHeartbeats 1000000 in
theorem zKu(s:ByteArray)(n:Nat)(w:World)(h1:1≤n)(h4:n≤4)(hn:n≤s.size)(hm:s.size≤9223372036854775807):
 Calls Tryz.prog 148 #[.string s,.int .i64 n] w fun e w'=>e = .returned (.int .i64 (sd s.data.toList n))∧w'=w:=by
 have HB:Hid (∀i (h:i<s.size),((s[i]'h).toNat:Int)=bt s.data.toList i):=zNk s;obtain rfl|rfl|rfl|rfl:n=1∨n=2∨n=3∨n=4:=by omega
 · have q0:=zC2 s 0 (by omega)
   go_enter Tryz.func148,Tryz.ntmps148;go_wp2;go_ret;exact⟨zBx (by rw[sd1,HB.out 0 (by omega)]),rfl⟩
 · have q0:=zC2 s 0 (by omega)
   have q1:=zC2 s 1 (by omega);go_enter Tryz.func148,Tryz.ntmps148;go_wp2;refine wp_loop_rounds 2 ?_;rw[rounds_succ];go_wp2;rw[rounds_succ];go_wp2;go_ret;exact⟨zBx (by rw[sd2,HB.out 0 (by omega),HB.out 1 (by omega)]),rfl⟩
 · have q0:=zC2 s 0 (by omega)
   have q1:=zC2 s 1 (by omega);have q2:=zC2 s 2 (by omega);go_enter Tryz.func148,Tryz.ntmps148;go_wp2;refine wp_loop_rounds 3 ?_;rw[rounds_succ];go_wp2;rw[rounds_succ];go_wp2;rw[rounds_succ];go_wp2;go_ret;exact⟨zBx (by rw[sd3,HB.out 0 (by omega),HB.out 1 (by omega),HB.out 2 (by omega)]),rfl⟩
 · have q0:=zC2 s 0 (by omega)
   have q1:=zC2 s 1 (by omega);have q2:=zC2 s 2 (by omega);have q3:=zC2 s 3 (by omega);go_enter Tryz.func148,Tryz.ntmps148;go_wp2;refine wp_loop_rounds 4 ?_;rw[rounds_succ];go_wp2;rw[rounds_succ];go_wp2;rw[rounds_succ];go_wp2;rw[rounds_succ];go_wp2;go_ret;exact⟨zBx (by rw[sd4,HB.out 0 (by omega),HB.out 1 (by omega),HB.out 2 (by omega),HB.out 3 (by omega)]),rfl⟩
end
section
open Go.RowKit Nums
attribute [local go_sem ↓] Go.wp_at_zero Go.wp_at_succ
theorem zL1(r:Int):(strOfNums (wrI r)).toList=wr r:=by
 rw[ByteArray.toList_eq,strOfNums_data];rfl
theorem zJ3(s:ByteArray)(n:Nat):(s.extract 0 n).toList=s.data.toList.take n:=by
 rw[ByteArray.toList_eq];simp[ByteArray.extract,ByteArray.copySlice]
theorem zPn(r:Int)(w:World){b:Bool}(h:isR r=b):Calls Tryz.prog 149 #[.int .i64 r] w fun e w'=>e = .returned (.bool b)∧w'=w:=by
 rw[←h];exact Rune_any r w
set_option maxHeartbeats 2000000 in
theorem zNw(s:ByteArray)(w:World)(h0:0<s.size)(hm:s.size≤9223372036854775807):
 Calls Tryz.prog 108 #[.string s] w fun e w'=>e = .returned (.tuple #[.int .i64 (rd s.data.toList).1,.int .i64 (rd s.data.toList).2])∧Below w.heap.size w w':=by
 have HNE:Hid (s.data.toList≠[]):=zEp h0;have HBD:Hid ((rd s.data.toList).2≤s.data.toList.length∧(rd s.data.toList).2≤4):=zR8 HNE.out;go_enter Tryz.func108,Tryz.ntmps108;go_wp2
 go_loopw [4] (fun i wr=>∃k:Nat,1≤k∧k≤5∧i = .int .i64 k∧(∀j,1≤j→j<k→(rd s.data.toList).2≠j)∧Below w.heap.size w wr) (fun i _=>5-(intOf i).toNat)
 case atStart=>exact⟨1,by omega,by omega,rfl,fun j a b=>by omega,Below.refl _ _⟩
 case round=>
  obtain⟨k,hk1,hk5,rfl,hno,hbel⟩:=hrel;have HNO:Hid (∀j,1≤j→j<k→(rd s.data.toList).2≠j):=hno;clear hno;by_cases hk:k≤4∧k≤s.size
  · obtain⟨hk4,hks⟩:=hk
    have hsb:=sd_bd s.data.toList k;generalize hx:sd s.data.toList k=x at *;have HX:Hid (sd s.data.toList k=x):=hx;clear hx;cases hr:isR x
    · have HR:Hid (isR x=false):=hr
      clear hr;have HF:Hid (∀j,1≤j→j<k+1→(rd s.data.toList).2≠j):=fun j a b=>by
       by_cases e:j=k
       · subst e;exact zQ7 HNE.out hk1 (fun h=>by have h2:=h.1;rw[HX.out,HR.out]at h2;cases h2)
       · exact HNO.out j a (by omega)
      go_wp2_with (go_at_call 148;refine(zKu s k _ hk1 hk4 hks hm).mono ?_;rintro e w' ⟨rfl,rfl⟩;rw[HX.out]);go_quiet ((go_at_call 149;exact Calls.quiet_of_same (zPn _ _ HR.out)));go_wp2
      go_roundw
      (case rel=>exact⟨k+1,by omega,by omega,by go_num,HF.out,below_drewN hbel _⟩);case measure=>simp[intOf];omega
    · have HR:Hid (isR x=true):=hr
      clear hr;(have h1k:(k:Int)≤(s.size:Int):=by omega);(have h1k':(0:Int)≤(k:Int):=by omega);by_cases hw:Nums.wr x=s.data.toList.take k
      · have HW:Hid (Nums.wr x=s.data.toList.take k):=hw
        (have hq:((strOfNums (wrI x)).toList==(s.extract 0 k).toList)=true:=by rw[zL1,zJ3,hw];simp);clear hw;have HF:Hid (rd s.data.toList=(x,k)):=by
         have:=zWh (l:=s.data.toList) (n:=k) (by rw[zAd];exact hks) (by rw[HX.out];exact HR.out) (by rw[HX.out];exact HW.out);rw[HX.out]at this;exact this
        go_wp2_with (go_at_call 148;refine(zKu s k _ hk1 hk4 hks hm).mono ?_;rintro e w' ⟨rfl,rfl⟩;rw[HX.out])
        go_region_held3 (fun _=>True) (trivial) (first|(go_at_call 149;refine(zPn _ _ HR.out).mono ?_;rintro e w' ⟨rfl,rfl⟩)|(go_at_call 150;refine(zNs _ _ HR.out).mono ?_;rintro e w3 ⟨rfl,hb3⟩))
        all_goals go_wp2
        all_goals go_ret2
        refine⟨?_,?_⟩
        · rw[HF.out];rfl
        · exact hbel.drew.trans (hb3.mono hbel.size)
      · have hq:((strOfNums (wrI x)).toList==(s.extract 0 k).toList)=false:=by rw[zL1,zJ3];simpa using hw
        have HW:Hid (¬Nums.wr x=s.data.toList.take k):=hw;clear hw;have HF:Hid (∀j,1≤j→j<k+1→(rd s.data.toList).2≠j):=fun j a b=>by
         by_cases e:j=k
         · subst e;exact zQ7 HNE.out hk1 (fun h=>by have h2:=h.2;rw[HX.out]at h2;exact HW.out h2)
         · exact HNO.out j a (by omega)
        go_wp2_with (go_at_call 148;refine(zKu s k _ hk1 hk4 hks hm).mono ?_;rintro e w' ⟨rfl,rfl⟩;rw[HX.out])
        go_region_held3 (fun _=>True) (trivial) (first|(go_at_call 149;refine(zPn _ _ HR.out).mono ?_;rintro e w' ⟨rfl,rfl⟩)|(go_at_call 150;refine(zNs _ _ HR.out).mono ?_;rintro e w3 ⟨rfl,hb3⟩))
        all_goals go_wp2
        go_roundw
        (case rel=>exact⟨k+1,by omega,by omega,by go_num,HF.out,hbel.drew.trans (hb3.mono hbel.size)⟩);case measure=>simp[intOf];omega
  · have HZ:Hid (rd s.data.toList=(0,0)):=by
     refine rd_zero ?_;by_cases z:(rd s.data.toList).2=0
     · exact z
     · have h2:=HBD.out
       rw[zAd]at h2;exact absurd rfl (HNO.out (rd s.data.toList).2 (by omega) (by omega))
    by_cases hk4:k≤4
    · have hks:¬k≤s.size:=fun h=>hk ⟨hk4,h⟩
      clear hk;go_wp2;go_ret2;refine⟨?_,hbel⟩;rw[HZ.out];rfl
    · clear hk
      go_wp2;go_ret2;refine⟨?_,hbel⟩;rw[HZ.out];rfl
end
section
open Go.RowKit Nums
set_option maxHeartbeats 2000000 in
theorem zG0(s:ByteArray)(w:World)(hm:s.size≤9223372036854775807)(hroom:Room s.data.toList):
 Calls Tryz.prog 69 #[.string s] w fun e w'=>∃v,Below w.heap.size w w' ∧
  ((rs s.data.toList=none∧v = .slice none 0 0∧e = .returned (.tuple #[v,.bool false])) ∨
   ∃xs,rs s.data.toList=some xs∧e = .returned (.tuple #[v,.bool true])∧Made w.heap.size w' v xs):=by
 obtain⟨i0,hi,hz0,hz1,hz2⟩:=info_parts zQ2;go_enter Tryz.func69,Tryz.ntmps69;go_wp2
 go_loopw [0,4] (fun t v wr=>∃(m:ByteArray) (pre:List Int),t = .string m∧m.size+pre.length≤s.size∧Made w.heap.size wr v pre∧zA1 s.data.toList m.data.toList pre∧Below w.heap.size w wr)
  (fun t _ _=>zSh t)
 case atStart=>exact⟨s,[],rfl,by simp,World.ownsRow_nil _ _ _ _,zGl _,Below.refl _ _⟩
 case round=>
  obtain⟨m,pre,rfl,hms,hown,hL,hbel⟩:=hrel;have HL:Hid (zA1 s.data.toList m.data.toList pre):=hL;clear hL;by_cases h0:0<m.size
  · have hne:=zEp h0
    have hbd:=zR8 hne;rw[zAd]at hbd;have HNE:Hid (m.data.toList≠[]):=hne;clear hne;generalize hr:rd m.data.toList=q at hbd;obtain⟨r,n⟩:=q;have HR:Hid (rd m.data.toList=(r,n)):=hr;clear hr;simp only at hbd;by_cases hn:n=0
    · subst hn
      have HF:Hid (rs s.data.toList=none):=zH4 HL.out HNE.out (by rw[HR.out]);go_wp2_with (go_at_call 108;refine(zNw _ _ h0 (by omega)).mono ?_;rintro e w2 ⟨rfl,hb2⟩;rw[HR.out]);go_ret2;exact⟨_,hbel.trans (hb2.mono hbel.size),.inl ⟨HF.out,rfl,rfl⟩⟩
    have hrb:0≤r∧r<1114112:=by
     have h2:=rd_isR (l:=m.data.toList) (by rw[HR.out];exact hn);rw[HR.out]at h2;exact zVu h2
    have hn0:((n:Int)==0)=false:=beq_eq_false_iff_ne.2 (by omega);have hrm:pre.length+1≤35184372088832:=hroom m.data.toList pre HL.out (by rw[zAd,zAd];exact hms) HNE.out (by rw[HR.out];exact hn)
    go_wp2_with (first
     |(go_at_call 108;refine(zNw _ _ h0 (by omega)).mono ?_;rintro e w2 ⟨rfl,hb2⟩;rw[HR.out])
     |(at_builtin;refine wpList_append_own _ rfl _ _ 122 rfl w.heap.size 21 i0 (.int .i32 0) 1 4 Tryz.underlying122 hi hz0 hz1 hz2 rfl (by decide) _ _ _ rfl (World.ownsRow.alloc (hown.below hb2) _) ⟨w2.heap.size,0,none⟩ 1 1 [.int .i32 r] rfl rfl ?c1 ?c2 ?c3 ?c4 ?c5 ?_))
    case c1=>
     intro j u hj
     match j,hj with
     |0,hj=>simp at hj;subst hj;exact zRg w2 r
    (case c2=>intro u hu;simp at hu;subst hu;rfl);(case c3=>unfold maxLen;omega);(case c4=>omega);(case c5=>have:=hbel.size;have:=hb2.size;simp;omega);intro v' w1 hown' hgrow _;(have hown2:Made w.heap.size w1 v' (pre++[r]):=by unfold Made;simpa using hown');have hbw:Below w.heap.size w w2:=hbel.trans (hb2.mono hbel.size);have hb1:Below w.heap.size w w1:=(hbw.alloc hbw.size _).grown hgrow (by have:=hbw.size;simp;omega) (fun k hk=>(World.ownsRow.lt hown k hk).1);clear hown' hgrow hown;go_wp2
    go_roundw
    (case rel=>exact⟨m.extract n m.size,pre++[r],rfl,by rw[zBr];simp;omega,hown2,zOi HL.out HNE.out HR.out hn,hb1⟩);case measure=>simp only[zSh];rw[zBr];omega
  · have HN:Hid (m.data.toList=[]):=zE2 h0
    have HF:Hid (rs s.data.toList=some pre):=zLf (by have:=HL.out;rw[HN.out]at this;exact this);go_wp2;go_ret2;exact⟨_,hbel,.inr ⟨pre,HF.out,rfl,hown⟩⟩
end
section
open Go.RowKit Nums
set_option maxHeartbeats 2000000 in
theorem zDw(s:ByteArray)(w:World)(hm:s.size≤9223372036854775807):
 Calls Tryz.prog 42 #[.string s] w fun e w'=>e = .returned (.bool (zAo s.data.toList))∧Below w.heap.size w w':=by
 by_cases hs:96<s.size
 · have HF:Hid (zAo s.data.toList=false):=word_far (by rw[zAd];exact hs)
   go_enter Tryz.func42,Tryz.ntmps42;go_wp2;go_ret;exact⟨by rw[HF.out];rfl,Below.refl _ _⟩
 have HROOM:Hid (Room s.data.toList):=zCz (by rw[zAd];omega);go_enter Tryz.func42,Tryz.ntmps42;go_wp2_with fail;refine(zG0 s _ hm HROOM.out).mono ?_;rintro e w1 ⟨v1,hb1,⟨hr,rfl,rfl⟩|⟨xs,hr,rfl,hmade⟩⟩
 · have HF:Hid (zAo s.data.toList=false):=by show zAo _=_;unfold zAo;rw[hr]
   clear hr;go_wp2;refine wp_loop_rounds 1 ?_;rw[rounds_succ];go_wp2;go_ret;exact⟨by rw[HF.out];rfl,hb1⟩
 have HR:Hid (rs s.data.toList=some xs):=hr;have hlen:=(rs_len hr).2;rw[zAd]at hlen;clear hr;obtain⟨ao,cap,rfl,hc⟩:=hmade.row;have HC:Hid (0<xs.length→∃b off,ao=some ⟨b,off,none⟩∧∀i,i<xs.length→w1.cell? ⟨b,off+i,none⟩=some (.int .i32 (xs.getD i 0))):=hc;clear hc hmade;go_wp2
 go_loop [5] (fun i=>∃k:Nat,k≤xs.length∧i = .int .i64 k∧(xs.take k).all vis=true) (fun i=>xs.length-(intOf i).toNat)
 case atStart=>exact⟨0,Nat.zero_le _,rfl,rfl⟩
 case round=>
  obtain⟨k,hk,rfl,hall⟩:=hrel;have HA:Hid ((xs.take k).all vis=true):=hall;clear hall;by_cases hlt:k<xs.length
  · obtain⟨b,off,rfl,hc⟩:=HC.out (by omega)
    have hck:=hc k hlt;clear hc HC;generalize hx:xs.getD k 0=x at *;have HX:Hid (xs.getD k 0=x):=hx;clear hx;by_cases h32:x≤32
    · have HF:Hid (zAo s.data.toList=false):=zJc HR.out hlt (by rw[HX.out];simp[vis];omega)
      go_wp2;go_ret;exact⟨by rw[HF.out];rfl,hb1⟩
    by_cases h127:x=127
    · have HF:Hid (zAo s.data.toList=false):=zJc HR.out hlt (by rw[HX.out];simp[vis];omega)
      have h127':(x==127)=true:=beq_iff_eq.2 h127;clear h127;go_wp2;go_ret;exact⟨by rw[HF.out];rfl,hb1⟩
    · have h127':(x==127)=false:=beq_eq_false_iff_ne.2 h127
      (have HV:Hid (vis x=true):=by show vis x=true;simp[vis];omega);go_wp2
      go_round
      (case rel=>exact⟨k+1,by omega,by go_num,all_next hlt HA.out (by rw[HX.out];exact HV.out)⟩);case measure=>simp[intOf];omega
  · obtain rfl:k=xs.length:=by omega
    have HF:Hid (zAo s.data.toList=(decide (1≤xs.length)&&decide (xs.length≤24))):=word_of HR.out (by have:=HA.out;rwa [List.take_length]at this);by_cases h1:1≤xs.length
    · by_cases h24:xs.length≤24
      all_goals
       go_wp2;go_ret;refine⟨?_,hb1⟩;rw[HF.out];simp[h1,h24];omega
    · go_wp2
      go_ret;refine⟨?_,hb1⟩;rw[HF.out];simp[h1]
end
namespace Mq
open Go.Sort Pm
section
variable {κ:Type} {less:κ→κ→Bool}
def Up(less:κ→κ→Bool)(l:List (κ×(Int×Int))):Prop:=l.Pairwise fun x y=>less y.1 x.1=false
def SUp(less:κ→κ→Bool)(l:List (κ×(Int×Int))):Prop:=l.Pairwise fun x y=>less x.1 y.1=true
theorem SUp.up(o:STO less){l:List (κ×(Int×Int))}(h:SUp less l):Up less l:=h.imp fun h=>o.asymm h
theorem up_le(o:STO less){L R:List (κ×(Int×Int))}{x y:κ×(Int×Int)}(hL:Up less (L++[x]))(hR:Up less (y::R))(h:less y.1 x.1=false):∀u∈L++[x],∀v∈y::R,less v.1 u.1=false:=by
 obtain⟨_,_,pL⟩:=List.pairwise_append.1 hL;obtain⟨pR,_⟩:=List.pairwise_cons.1 hR;have hux:∀u∈L++[x],less y.1 u.1=false:=fun u hu=>by
  rcases List.mem_append.1 hu with a|a
  · exact o.ntr (pL u a x (List.mem_singleton.2 rfl)) h
  · rw[List.mem_singleton.1 a];exact h
 intro u hu v hv;rcases List.mem_cons.1 hv with rfl|b
 · exact hux u hu
 · exact o.ntr (hux u hu) (pR v b)
theorem up_lt(o:STO less){L R:List (κ×(Int×Int))}{x y:κ×(Int×Int)}(hR:Up less (R++[y]))(hL:Up less (x::L))(h:less y.1 x.1=true):∀u∈R++[y],∀v∈x::L,less u.1 v.1=true:=by
 obtain⟨_,_,pR⟩:=List.pairwise_append.1 hR;obtain⟨pL,_⟩:=List.pairwise_cons.1 hL;have hux:∀u∈R++[y],less u.1 x.1=true:=fun u hu=>by
  rcases List.mem_append.1 hu with a|a
  · have h1:=pR u a y (List.mem_singleton.2 rfl)
    cases e:less u.1 x.1 with
    |true=>rfl
    |false=>have:=o.ntr e h1;rw[h]at this;cases this
  · rw[List.mem_singleton.1 a];exact h
 intro u hu v hv;rcases List.mem_cons.1 hv with rfl|b
 · exact hux u hu
 · have h1:=pL v b
   have h2:=hux u hu;cases e:less u.1 v.1 with
   |true=>rfl
   |false=>have:=o.ntr h1 e;rw[h2]at this;cases this
def plt(less:κ→κ→Bool)(x y:κ×(Int×Int)):Bool:=less x.1 y.1
theorem plt_swo(o:STO less):SWO (plt less):=⟨fun _=>o.irr _,fun _ _ _ h1 h2=>o.tr _ _ _ h1 h2,fun _ _ _ h1 h2=>o.ntr h2 h1⟩
end
variable {κ:Type} [DecidableEq κ] {less:κ→κ→Bool}
def of(k:κ)(l:List (κ×(Int×Int))):List (κ×(Int×Int)):=l.filter fun x=>decide (x.1=k)
theorem of_append(k:κ)(a b:List (κ×(Int×Int))):of k (a++b)=of k a++of k b:=List.filter_append ..
theorem of_cons_same(x:κ×(Int×Int))(l:List (κ×(Int×Int))):of x.1 (x::l)=x::of x.1 l:=by simp[of]
theorem of_cons_ne{k:κ}{x:κ×(Int×Int)}(h:x.1≠k)(l:List (κ×(Int×Int))):of k (x::l)=of k l:=by simp[of,h]
def Stably(less:κ→κ→Bool)(l l':List (κ×(Int×Int))):Prop:=Up less l'∧∀k,of k l'=of k l
theorem Stably.self{l:List (κ×(Int×Int))}(h:Up less l):Stably less l l:=⟨h,fun _=>rfl⟩
theorem Stably.trans{a b c:List (κ×(Int×Int))}(h1:∀k,of k b=of k a)(h2:Stably less b c):Stably less a c:=⟨h2.1,fun k=>(h2.2 k).trans (h1 k)⟩
theorem of_mem{k:κ}{l:List (κ×(Int×Int))}{x:κ×(Int×Int)}:x∈of k l↔x∈l∧x.1=k:=by simp[of]
theorem mem_of_same{a b:List (κ×(Int×Int))}(h:∀k,of k b=of k a){x:κ×(Int×Int)}(hx:x∈b):x∈a:=by
 have:x∈of x.1 b:=of_mem.2 ⟨hx,rfl⟩;rw[h]at this;exact(of_mem.1 this).1
theorem of_len(a:List (κ×(Int×Int))):∀b:List (κ×(Int×Int)),(∀k,of k b=of k a)→b.length=a.length:=by
 induction a with
 |nil=>
  intro b h;cases b with
  |nil=>rfl
  |cons x r=>have:=h x.1;rw[of_cons_same]at this;cases this
 |cons y a ih=>
  intro b h;have hy:y∈b:=by
   (have:y∈of y.1 b:=by rw[h,of_cons_same];exact List.mem_cons_self ..);exact(of_mem.1 this).1
  have key:∀b:List (κ×(Int×Int)),of y.1 b=y::of y.1 a→∃p q,b=p++y::q∧of y.1 p=[]∧of y.1 q=of y.1 a:=by
   intro b
   induction b with
   |nil=>intro h;cases h
   |cons z r ih2=>
    intro h;by_cases hz:z.1=y.1
    · rw[←hz,of_cons_same,hz]at h
      simp only[List.cons.injEq]at h;obtain⟨rfl,h2⟩:=h;exact⟨[],r,rfl,rfl,h2⟩
    · rw[of_cons_ne hz]at h
      obtain⟨p,q,rfl,h1,h2⟩:=ih2 h;exact⟨z::p,q,rfl,by rw[of_cons_ne hz];exact h1,h2⟩
  obtain⟨p,q,rfl,h1,h2⟩:=key b (by rw[h,of_cons_same]);have hpq:∀k,of k (p++q)=of k a:=fun k=>by
   by_cases hk:y.1=k
   · subst hk;rw[of_append,h1,h2];rfl
   · have:=h k
     rw[of_append,of_cons_ne hk,of_cons_ne hk]at this;rw[of_append];exact this
  have:=ih (p++q) hpq;simp at this ⊢;omega
theorem Stably.len{a b:List (κ×(Int×Int))}(h:Stably less a b):b.length=a.length:=of_len a b h.2
theorem of_comm(o:STO less){x y:List (κ×(Int×Int))}(h:∀u∈x,∀v∈y,less u.1 v.1=true)(k:κ):of k (x++y)=of k (y++x):=by
 rw[of_append,of_append];cases e:of k x with
 |nil=>simp
 |cons u r=>
  have hu:u∈of k x:=by rw[e];exact List.mem_cons_self ..
  have e2:of k y=[]:=by
   cases e3:of k y with
   |nil=>rfl
   |cons v s=>
    (have hv:v∈of k y:=by rw[e3];exact List.mem_cons_self ..);obtain⟨u1,u2⟩:=of_mem.1 hu;obtain⟨v1,v2⟩:=of_mem.1 hv;have:=h u u1 v v1;rw[u2,v2,o.irr]at this;cases this
  rw[e2];simp
theorem Stably.join{a b c d:List (κ×(Int×Int))}(h1:Stably less a c)(h2:Stably less b d)(h:∀x∈a,∀y∈b,less y.1 x.1=false):Stably less (a++b) (c++d):=by
 refine⟨List.pairwise_append.2 ⟨h1.1,h2.1,fun x hx y hy=>h x (mem_of_same h1.2 hx) y (mem_of_same h2.2 hy)⟩,fun k=>?_⟩;rw[of_append,of_append,h1.2,h2.2]
theorem insert_left(o:STO less){x:κ×(Int×Int)}{a b:List (κ×(Int×Int))}(hup:Up less (a++b))(h1:∀u∈a,less u.1 x.1=true)(h2:∀u∈b,less u.1 x.1=false):Stably less (x::(a++b)) (a++x::b):=by
 obtain⟨p1,p2,p3⟩:=List.pairwise_append.1 hup;refine⟨List.pairwise_append.2 ⟨p1,List.pairwise_cons.2 ⟨h2,p2⟩,fun u hu v hv=>?_⟩,fun k=>?_⟩
 · rcases List.mem_cons.1 hv with rfl|hv
   · exact o.asymm (h1 u hu)
   · exact p3 u hu v hv
 · have:=of_comm o (x:=a) (y:=[x]) (fun u hu v hv=>by rw[List.mem_singleton.1 hv];exact h1 u hu) k
   rw[show a++x::b=(a++[x])++b by simp,show x::(a++b)=([x]++a)++b by simp,of_append,this,←of_append]
theorem insert_right(o:STO less){y:κ×(Int×Int)}{a b:List (κ×(Int×Int))}(hup:Up less (a++b))(h1:∀u∈a,less y.1 u.1=false)(h2:∀u∈b,less y.1 u.1=true):Stably less (a++b++[y]) (a++y::b):=by
 obtain⟨p1,p2,p3⟩:=List.pairwise_append.1 hup;refine⟨List.pairwise_append.2 ⟨p1,List.pairwise_cons.2 ⟨fun u hu=>o.asymm (h2 u hu),p2⟩,fun u hu v hv=>?_⟩,fun k=>?_⟩
 · rcases List.mem_cons.1 hv with rfl|hv
   · exact h1 u hu
   · exact p3 u hu v hv
 · have:=of_comm o (x:=[y]) (y:=b) (fun u hu v hv=>by rw[List.mem_singleton.1 hu];exact h2 v hv) k
   rw[show a++y::b=a++([y]++b)by simp,show a++b++[y]=a++(b++[y])by simp,of_append,this,←of_append]
theorem turned(o:STO less){L1 L2 R1 R2 X Y:List (κ×(Int×Int))}(hL:Up less (L1++L2))(hR:Up less (R1++R2))(h1:∀u∈L1,∀v∈R2,less v.1 u.1=false)(h2:∀u∈R1,∀v∈L2,less u.1 v.1=true)
 (hX:Stably less (L1++R1) X) (hY:Stably less (L2++R2) Y):Stably less (L1++L2++(R1++R2)) (X++Y):=by
 refine Stably.trans (b:=L1++R1++(L2++R2)) (fun k=>?_) (hX.join hY fun x hx y hy=>?_)
 · have:=of_comm o h2 k
   simp only[of_append,List.append_assoc]at this ⊢;rw[←List.append_assoc (of k R1),this,List.append_assoc]
 · obtain⟨_,_,pL⟩:=List.pairwise_append.1 hL
   obtain⟨_,_,pR⟩:=List.pairwise_append.1 hR;rcases List.mem_append.1 hx with a|a<;>rcases List.mem_append.1 hy with b|b
   · exact pL x a y b
   · exact h1 x a y b
   · exact o.asymm (h2 x a y b)
   · exact pR x a y b
variable [Inhabited κ]
theorem insInner_of(o:STO less)(a:Nat):∀(j:Nat) (d:Array (κ×(Int×Int))),j<d.size→(insInner (plt less) a j d).size=d.size∧∀k,of k (insInner (plt less) a j d).toList=of k d.toList
 |0,d,_=>⟨rfl,fun _=>rfl⟩
 |j+1,d,hj=>by
  unfold insInner
  split
  · next h=>
    obtain⟨l⟩:=d;(have hj':j+1<l.length:=by simpa using hj);obtain⟨P,x,T,e,hl⟩:=zO4 l j (by omega);(have hT:T≠[]:=fun h=>by rw[e,h]at hj';simp at hj';omega);cases T with
    |nil=>exact absurd rfl hT
    |cons y S=>
     subst e;subst hl;(have g1:(P++x::y::S).toArray[P.length+1]! = y:=by simp);(have g2:(P++x::y::S).toArray[P.length]! = x:=by simp);have hlt:less y.1 x.1=true:=by
      simp only[Bool.and_eq_true,decide_eq_true_eq]at h;have:=h.2;rw[g1,g2]at this;exact this
     rw[zKq];obtain⟨i1,i2⟩:=insInner_of o a P.length (P++y::x::S).toArray (by simp);refine⟨by rw[i1];simp,fun k=>?_⟩;rw[i2];have:=of_comm o (x:=[y]) (y:=[x]) (fun u hu v hv=>by rw[List.mem_singleton.1 hu,List.mem_singleton.1 hv];exact hlt) k;show of k (P++([y,x]++S))=of k (P++([x,y]++S));rw[of_append,of_append k [y,x],of_append,of_append k [x,y]];rw[show[y,x]=[y]++[x]from rfl,show[x,y]=[x]++[y]from rfl,this]
  · exact⟨rfl,fun _=>rfl⟩
theorem insOuter_of(o:STO less)(a b:Nat):∀(n i:Nat) (d:Array (κ×(Int×Int))),b-i=n→b≤d.size→∀k,of k (insOuter (plt less) a b i d).toList=of k d.toList
 |0,i,d,h,_,k=>by rw[insOuter,if_neg (by omega)]
 |n+1,i,d,h,hb,k=>by
  obtain⟨i1,i2⟩:=insInner_of o a i d (by omega);rw[insOuter,if_pos (by omega),insOuter_of o a b n (i+1) _ (by omega) (by rw[i1];exact hb),i2]
theorem ins_list(o:STO less)(A X B:List (κ×(Int×Int))):∃X',insertionSort (plt less) (A++(X++B)).toArray A.length (A.length+X.length)=(A++(X'++B)).toArray∧Stably less X X':=by
 obtain⟨⟨h1,h2,_⟩,h3⟩:=insertionSort_holds (lt:=plt less) (plt_swo o) (A++(X++B)).toArray A.length (A.length+X.length) (by omega) (by simp);have hof:=insOuter_of o A.length (A.length+X.length) _ (A.length+1) (A++(X++B)).toArray rfl (by simp);change ∀k,of k (insertionSort (plt less) (A++(X++B)).toArray A.length (A.length+X.length)).toList=_ at hof;generalize insertionSort (plt less) (A++(X++B)).toArray A.length (A.length+X.length)=d at h1 h2 h3 hof ⊢;obtain⟨l⟩:=d;have hl:l.length=A.length+(X.length+B.length):=by simpa using h1
 obtain⟨A',r,rfl,hA⟩:=zD0 l A.length (by omega);have hr:r.length=X.length+B.length:=by simp at hl;omega
 obtain⟨X',B',rfl,hX⟩:=zD0 r X.length (by omega);have hB:B'.length=B.length:=by simp at hr;omega
 have eA:A'=A:=by
  refine List.ext_getElem hA fun i p q=>?_
  have:=h2 i (.inl q);simpa[List.getElem?_append_left p,List.getElem?_append_left q,p,q]using this
 have eB:B'=B:=by
  refine List.ext_getElem hB fun i p q=>?_
  have:=h2 (A.length+X.length+i) (.inr (by omega));rw[eA]at this;simpa[List.getElem?_append_right,hX,Nat.add_assoc,p,q]using this
 subst eA;subst eB;refine⟨X',rfl,?_,fun k=>?_⟩
 · refine List.pairwise_iff_getElem.2 fun i j hi hj hij=>?_
   have:=h3 (A'.length+i) (A'.length+j) (by omega) (by omega) (by omega);simpa[plt,List.getElem?_append_right,List.getElem?_append_left hi,List.getElem?_append_left hj,hi,hj]using this
 · have:=hof k
   simp only[of_append,List.append_cancel_left_eq,List.append_cancel_right_eq]at this;exact this
end Mq
