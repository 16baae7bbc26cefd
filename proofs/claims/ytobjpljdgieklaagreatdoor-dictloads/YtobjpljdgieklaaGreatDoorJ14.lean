import Derived.Test.YtobjpljdgieklaaGreatDoorJ10
import Derived.Deep.RegionHeld3
import Derived.Deep.DrawnRows
set_option maxRecDepth 100000
set_option maxHeartbeats 8000000
namespace Go.Proofs.YtobjpljdgieklaaGreatDoor
section
open Go.RowKit Nums
theorem Made.row{B:Nat}{w:World}{v:Value}{xs:List Int}(h:Made B w v xs):Row w v xs:=by
 obtain⟨hl,hn|⟨g,cap,cur,rfl,hb,hg,h1,h2,h3,h4⟩⟩:=h
 · obtain⟨rfl,h0⟩:=hn
   refine⟨none,0,by rw[h0],fun h=>by omega⟩
 · refine⟨_,_,rfl,fun _=>⟨g,0,rfl,fun i hi=>?_⟩⟩
   have hc:cur[i]?=some (.int .i32 (xs.getD i 0)):=by
    (have e:(cur.toList.take (xs.length*1))[i]?=(xs.map (Value.int .i32))[i]?:=by rw[h4]);rw[List.getElem?_take,if_pos (by omega)]at e;rw[←Array.getElem?_toList,e,List.getElem?_map,List.getElem?_eq_getElem hi];simp[List.getD_eq_getElem?_getD,List.getElem?_eq_getElem hi]
   simp only[World.cell?,hg,Nat.zero_add];simpa using hc
theorem Row.below{w w':World}{v:Value}{xs:List Int}(h:Row w v xs)(hb:Below w.heap.size w w'):Row w' v xs:=by
 obtain⟨ao,cap,rfl,hc⟩:=h;refine⟨ao,cap,rfl,fun h0=>?_⟩;obtain⟨b,off,rfl,hd⟩:=hc h0;exact⟨b,off,rfl,fun i hi=>(hb.cell (p:=⟨b,off+i,none⟩) (zAp (hd i hi))).trans (hd i hi)⟩
end
section
open Go.RowKit Nums
attribute [local go_sem ↓] Go.wp_at_zero Go.wp_at_succ
theorem Rune_any(r:Int)(w:World):Calls Tryz.prog 149 #[.int .i64 r] w fun e w'=>e = .returned (.bool (isR r))∧w'=w:=by
 by_cases h0:0≤r
 · by_cases h1:r≤1114111
   · by_cases h2:r<55296
     · go_enter Tryz.func149,Tryz.ntmps149
       go_wp2;go_ret;exact⟨zCg (by first|(rw[zEy (by omega)])|(rw[zEa (by omega)])),rfl⟩
     · by_cases h3:57343<r
       all_goals
        go_enter Tryz.func149,Tryz.ntmps149;go_wp2;go_ret;exact⟨zCg (by first|(rw[zEy (by omega)])|(rw[zEa (by omega)])),rfl⟩
   · go_enter Tryz.func149,Tryz.ntmps149
     go_wp2;go_ret;exact⟨zCg (by first|(rw[zEy (by omega)])|(rw[zEa (by omega)])),rfl⟩
 · go_enter Tryz.func149,Tryz.ntmps149
   go_wp2;go_ret;exact⟨zCg (by first|(rw[zEy (by omega)])|(rw[zEa (by omega)])),rfl⟩
theorem zHe(w:World)(xs:List Int)(n:Nat)(hn:xs.length=n):
 (convert 68 9 (.slice (some ⟨w.heap.size,0,none⟩) n n)).run Tryz.prog (w.alloc (.cells (xs.map (Value.int .u8)).toArray 5)) = .ok (.string (strOfNums xs)) (w.alloc (.cells (xs.map (Value.int .u8)).toArray 5)):=by
 refine run_convert_bytes_arg _ 68 5 Tryz.underlying68 Tryz.underlying5 w.heap.size 0 n n xs hn (fun i hi=>?_) 9 Tryz.underlying9;rw[Nat.zero_add,World.cell?_alloc_new];subst hn;simp[List.getD_eq_getElem?_getD,List.getElem?_eq_getElem hi]
theorem zNp(r:Int)(w:World)(hr:isR r=true):Calls Tryz.prog 150 #[.int .i64 r] w fun e w'=>e = .returned (.string (strOfNums (wrI r)))∧Below w.heap.size w w':=by
 have hbd:=zVs hr;clear hr;by_cases a:r<128
 · have h:=zHe w [r] 1 rfl
   simp only[List.map]at h;have HW:Hid (wrI r=[r]):=wrI1 a;go_enter Tryz.func150,Tryz.ntmps150;go_wp2;go_ret;exact⟨by rw[HW.out];rfl,(Below.refl _ _).alloc (Nat.le_refl _) _⟩
 by_cases b:r<2048
 · have h:=zHe w [192+r/64,128+r%64] 2 rfl
   simp only[List.map]at h;have HW:Hid (wrI r=[192+r/64,128+r%64]):=wrI2 (by omega) b;go_enter Tryz.func150,Tryz.ntmps150;go_wp2;go_ret;exact⟨by rw[HW.out];rfl,(Below.refl _ _).alloc (Nat.le_refl _) _⟩
 by_cases c:r<65536
 · have h:=zHe w [224+r/4096,128+r/64%64,128+r%64] 3 rfl
   simp only[List.map]at h;have HW:Hid (wrI r=[224+r/4096,128+r/64%64,128+r%64]):=by
    show wrI r=_;rw[wrI3 (by omega) c,show r/64/64=r/4096 by omega]
   go_enter Tryz.func150,Tryz.ntmps150;go_wp2;go_ret;exact⟨by rw[HW.out];rfl,(Below.refl _ _).alloc (Nat.le_refl _) _⟩
 · have h:=zHe w [240+r/262144,128+r/4096%64,128+r/64%64,128+r%64] 4 rfl
   simp only[List.map]at h;have HW:Hid (wrI r=[240+r/262144,128+r/4096%64,128+r/64%64,128+r%64]):=by
    show wrI r=_;rw[wrI4 (by omega),show r/64/64/64=r/262144 by omega,show r/64/64=r/4096 by omega]
   go_enter Tryz.func150,Tryz.ntmps150;go_wp2;go_ret;exact⟨by rw[HW.out];rfl,(Below.refl _ _).alloc (Nat.le_refl _) _⟩
theorem zC6(s:ByteArray)(i:Nat)(h:i<s.size):((s[i]'h).toNat:Int)<256:=by have:=(s[i]'h).toNat_lt;omega
theorem zKa(s:ByteArray)(n:Nat)(w:World)(h1:1≤n)(h4:n≤4)(hn:n≤s.size)(hm:s.size≤9223372036854775807):
 Calls Tryz.prog 148 #[.string s,.int .i64 n] w fun e w'=>e = .returned (.int .i64 (sd s.data.toList n))∧w'=w:=by
 have HB:Hid (∀i (h:i<s.size),((s[i]'h).toNat:Int)=bt s.data.toList i):=zNh s;obtain rfl|rfl|rfl|rfl:n=1∨n=2∨n=3∨n=4:=by omega
 · have q0:=zC6 s 0 (by omega)
   go_enter Tryz.func148,Tryz.ntmps148;go_wp2;go_ret;exact⟨zBy (by rw[sd1,HB.out 0 (by omega)]),rfl⟩
 · have q0:=zC6 s 0 (by omega)
   have q1:=zC6 s 1 (by omega);go_enter Tryz.func148,Tryz.ntmps148;go_wp2;refine wp_loop_rounds 2 ?_;rw[rounds_succ];go_wp2;rw[rounds_succ];go_wp2;go_ret;exact⟨zBy (by rw[sd2,HB.out 0 (by omega),HB.out 1 (by omega)]),rfl⟩
 · have q0:=zC6 s 0 (by omega)
   have q1:=zC6 s 1 (by omega);have q2:=zC6 s 2 (by omega);go_enter Tryz.func148,Tryz.ntmps148;go_wp2;refine wp_loop_rounds 3 ?_;rw[rounds_succ];go_wp2;rw[rounds_succ];go_wp2;rw[rounds_succ];go_wp2;go_ret;exact⟨zBy (by rw[sd3,HB.out 0 (by omega),HB.out 1 (by omega),HB.out 2 (by omega)]),rfl⟩
 · have q0:=zC6 s 0 (by omega)
   have q1:=zC6 s 1 (by omega);have q2:=zC6 s 2 (by omega);have q3:=zC6 s 3 (by omega);go_enter Tryz.func148,Tryz.ntmps148;go_wp2;refine wp_loop_rounds 4 ?_;rw[rounds_succ];go_wp2;rw[rounds_succ];go_wp2;rw[rounds_succ];go_wp2;rw[rounds_succ];go_wp2;go_ret;exact⟨zBy (by rw[sd4,HB.out 0 (by omega),HB.out 1 (by omega),HB.out 2 (by omega),HB.out 3 (by omega)]),rfl⟩
end
section
open Go.RowKit Nums
attribute [local go_sem ↓] Go.wp_at_zero Go.wp_at_succ
theorem zLp(r:Int):(strOfNums (wrI r)).toList=wr r:=by
 rw[ByteArray.toList_eq,strOfNums_data];rfl
theorem zJn(s:ByteArray)(n:Nat):(s.extract 0 n).toList=s.data.toList.take n:=by
 rw[ByteArray.toList_eq];simp[ByteArray.extract,ByteArray.copySlice]
theorem zPj(r:Int)(w:World){b:Bool}(h:isR r=b):Calls Tryz.prog 149 #[.int .i64 r] w fun e w'=>e = .returned (.bool b)∧w'=w:=by
 rw[←h];exact Rune_any r w
theorem zNu(s:ByteArray)(w:World)(h0:0<s.size)(hm:s.size≤9223372036854775807):
 Calls Tryz.prog 108 #[.string s] w fun e w'=>e = .returned (.tuple #[.int .i64 (rd s.data.toList).1,.int .i64 (rd s.data.toList).2])∧Below w.heap.size w w':=by
 have HNE:Hid (s.data.toList≠[]):=zEl h0;have HBD:Hid ((rd s.data.toList).2≤s.data.toList.length∧(rd s.data.toList).2≤4):=zR6 HNE.out;go_enter Tryz.func108,Tryz.ntmps108;go_wp2
 go_loopw [4] (fun i wr=>∃k:Nat,1≤k∧k≤5∧i = .int .i64 k∧(∀j,1≤j→j<k→(rd s.data.toList).2≠j)∧Below w.heap.size w wr) (fun i _=>5-(intOf i).toNat)
 case atStart=>exact⟨1,by omega,by omega,rfl,fun j a b=>by omega,Below.refl _ _⟩
 case round=>
  obtain⟨k,hk1,hk5,rfl,hno,hbel⟩:=hrel;have HNO:Hid (∀j,1≤j→j<k→(rd s.data.toList).2≠j):=hno;clear hno;by_cases hk:k≤4∧k≤s.size
  · obtain⟨hk4,hks⟩:=hk
    have hsb:=sd_bd s.data.toList k;generalize hx:sd s.data.toList k=x at *;have HX:Hid (sd s.data.toList k=x):=hx;clear hx;cases hr:isR x
    · have HR:Hid (isR x=false):=hr
      clear hr;have HF:Hid (∀j,1≤j→j<k+1→(rd s.data.toList).2≠j):=fun j a b=>by
       by_cases e:j=k
       · subst e;exact zQ3 HNE.out hk1 (fun h=>by have h2:=h.1;rw[HX.out,HR.out]at h2;cases h2)
       · exact HNO.out j a (by omega)
      go_wp2_with (go_at_call 148;refine(zKa s k _ hk1 hk4 hks hm).mono ?_;rintro e w' ⟨rfl,rfl⟩;rw[HX.out]);go_quiet ((go_at_call 149;exact Calls.quiet_of_same (zPj _ _ HR.out)));go_wp2
      go_roundw
      (case rel=>exact⟨k+1,by omega,by omega,by go_num,HF.out,below_drewN hbel _⟩);case measure=>simp[intOf];omega
    · have HR:Hid (isR x=true):=hr
      clear hr;(have h1k:(k:Int)≤(s.size:Int):=by omega);(have h1k':(0:Int)≤(k:Int):=by omega);by_cases hw:Nums.wr x=s.data.toList.take k
      · have HW:Hid (Nums.wr x=s.data.toList.take k):=hw
        (have hq:((strOfNums (wrI x)).toList==(s.extract 0 k).toList)=true:=by rw[zLp,zJn,hw];simp);clear hw;have HF:Hid (rd s.data.toList=(x,k)):=by
         have:=zWg (l:=s.data.toList) (n:=k) (by rw[zAj];exact hks) (by rw[HX.out];exact HR.out) (by rw[HX.out];exact HW.out);rw[HX.out]at this;exact this
        go_wp2_with (go_at_call 148;refine(zKa s k _ hk1 hk4 hks hm).mono ?_;rintro e w' ⟨rfl,rfl⟩;rw[HX.out])
        go_region_held3 (fun _=>True) (trivial) (first|(go_at_call 149;refine(zPj _ _ HR.out).mono ?_;rintro e w' ⟨rfl,rfl⟩)|(go_at_call 150;refine(zNp _ _ HR.out).mono ?_;rintro e w3 ⟨rfl,hb3⟩))
        all_goals go_wp2
        all_goals go_ret2
        refine⟨?_,?_⟩
        · rw[HF.out];rfl
        · exact hbel.drew.trans (hb3.mono hbel.size)
      · have hq:((strOfNums (wrI x)).toList==(s.extract 0 k).toList)=false:=by rw[zLp,zJn];simpa using hw
        have HW:Hid (¬Nums.wr x=s.data.toList.take k):=hw;clear hw;have HF:Hid (∀j,1≤j→j<k+1→(rd s.data.toList).2≠j):=fun j a b=>by
         by_cases e:j=k
         · subst e;exact zQ3 HNE.out hk1 (fun h=>by have h2:=h.2;rw[HX.out]at h2;exact HW.out h2)
         · exact HNO.out j a (by omega)
        go_wp2_with (go_at_call 148;refine(zKa s k _ hk1 hk4 hks hm).mono ?_;rintro e w' ⟨rfl,rfl⟩;rw[HX.out])
        go_region_held3 (fun _=>True) (trivial) (first|(go_at_call 149;refine(zPj _ _ HR.out).mono ?_;rintro e w' ⟨rfl,rfl⟩)|(go_at_call 150;refine(zNp _ _ HR.out).mono ?_;rintro e w3 ⟨rfl,hb3⟩))
        all_goals go_wp2
        go_roundw
        (case rel=>exact⟨k+1,by omega,by omega,by go_num,HF.out,hbel.drew.trans (hb3.mono hbel.size)⟩);case measure=>simp[intOf];omega
  · have HZ:Hid (rd s.data.toList=(0,0)):=by
     refine rd_zero ?_;by_cases z:(rd s.data.toList).2=0
     · exact z
     · have h2:=HBD.out
       rw[zAj]at h2;exact absurd rfl (HNO.out (rd s.data.toList).2 (by omega) (by omega))
    by_cases hk4:k≤4
    · have hks:¬k≤s.size:=fun h=>hk ⟨hk4,h⟩
      clear hk;go_wp2;go_ret2;refine⟨?_,hbel⟩;rw[HZ.out];rfl
    · clear hk
      go_wp2;go_ret2;refine⟨?_,hbel⟩;rw[HZ.out];rfl
end
section
open Go.RowKit Nums
theorem zGx(s:ByteArray)(w:World)(hm:s.size≤9223372036854775807)(hroom:Room s.data.toList):
 Calls Tryz.prog 69 #[.string s] w fun e w'=>∃v,Below w.heap.size w w' ∧
  ((rs s.data.toList=none∧v = .slice none 0 0∧e = .returned (.tuple #[v,.bool false])) ∨
   ∃xs,rs s.data.toList=some xs∧e = .returned (.tuple #[v,.bool true])∧Made w.heap.size w' v xs):=by
 obtain⟨i0,hi,hz0,hz1,hz2⟩:=info_parts zQx;go_enter Tryz.func69,Tryz.ntmps69;go_wp2
 go_loopw [0,4] (fun t v wr=>∃(m:ByteArray) (pre:List Int),t = .string m∧m.size+pre.length≤s.size∧Made w.heap.size wr v pre∧zAz s.data.toList m.data.toList pre∧Below w.heap.size w wr)
  (fun t _ _=>zSh t)
 case atStart=>exact⟨s,[],rfl,by simp,World.ownsRow_nil _ _ _ _,zGj _,Below.refl _ _⟩
 case round=>
  obtain⟨m,pre,rfl,hms,hown,hL,hbel⟩:=hrel;have HL:Hid (zAz s.data.toList m.data.toList pre):=hL;clear hL;by_cases h0:0<m.size
  · have hne:=zEl h0
    have hbd:=zR6 hne;rw[zAj]at hbd;have HNE:Hid (m.data.toList≠[]):=hne;clear hne;generalize hr:rd m.data.toList=q at hbd;obtain⟨r,n⟩:=q;have HR:Hid (rd m.data.toList=(r,n)):=hr;clear hr;simp only at hbd;by_cases hn:n=0
    · subst hn
      have HF:Hid (rs s.data.toList=none):=zHz HL.out HNE.out (by rw[HR.out]);go_wp2_with (go_at_call 108;refine(zNu _ _ h0 (by omega)).mono ?_;rintro e w2 ⟨rfl,hb2⟩;rw[HR.out]);go_ret2;exact⟨_,hbel.trans (hb2.mono hbel.size),.inl ⟨HF.out,rfl,rfl⟩⟩
    have hrb:0≤r∧r<1114112:=by
     have h2:=rd_isR (l:=m.data.toList) (by rw[HR.out];exact hn);rw[HR.out]at h2;exact zVs h2
    have hn0:((n:Int)==0)=false:=beq_eq_false_iff_ne.2 (by omega);have hrm:pre.length+1≤35184372088832:=hroom m.data.toList pre HL.out (by rw[zAj,zAj];exact hms) HNE.out (by rw[HR.out];exact hn)
    go_wp2_with (first
     |(go_at_call 108;refine(zNu _ _ h0 (by omega)).mono ?_;rintro e w2 ⟨rfl,hb2⟩;rw[HR.out])
     |(at_builtin;refine wpList_append_own _ rfl _ _ 122 rfl w.heap.size 21 i0 (.int .i32 0) 1 4 Tryz.underlying122 hi hz0 hz1 hz2 rfl (by decide) _ _ _ rfl (World.ownsRow.alloc (hown.below hb2) _) ⟨w2.heap.size,0,none⟩ 1 1 [.int .i32 r] rfl rfl ?c1 ?c2 ?c3 ?c4 ?c5 ?_))
    case c1=>
     intro j u hj
     match j,hj with
     |0,hj=>simp at hj;subst hj;exact zRc w2 r
    (case c2=>intro u hu;simp at hu;subst hu;rfl);(case c3=>unfold maxLen;omega);(case c4=>omega);(case c5=>have:=hbel.size;have:=hb2.size;simp;omega);intro v' w1 hown' hgrow _;(have hown2:Made w.heap.size w1 v' (pre++[r]):=by unfold Made;simpa using hown');have hbw:Below w.heap.size w w2:=hbel.trans (hb2.mono hbel.size);have hb1:Below w.heap.size w w1:=(hbw.alloc hbw.size _).grown hgrow (by have:=hbw.size;simp;omega) (fun k hk=>(World.ownsRow.lt hown k hk).1);clear hown' hgrow hown;go_wp2
    go_roundw
    (case rel=>exact⟨m.extract n m.size,pre++[r],rfl,by rw[zBt];simp;omega,hown2,zOc HL.out HNE.out HR.out hn,hb1⟩);case measure=>simp only[zSh];rw[zBt];omega
  · have HN:Hid (m.data.toList=[]):=zE2 h0
    have HF:Hid (rs s.data.toList=some pre):=zKx (by have:=HL.out;rw[HN.out]at this;exact this);go_wp2;go_ret2;exact⟨_,hbel,.inr ⟨pre,HF.out,rfl,hown⟩⟩
theorem zPk(s:ByteArray)(w:World)(hm:s.size≤9223372036854775807):
 Calls Tryz.prog 42 #[.string s] w fun e w'=>e = .returned (.bool (zAq s.data.toList))∧Below w.heap.size w w':=by
 by_cases hs:96<s.size
 · have HF:Hid (zAq s.data.toList=false):=word_far (by rw[zAj];exact hs)
   go_enter Tryz.func42,Tryz.ntmps42;go_wp2;go_ret;exact⟨by rw[HF.out];rfl,Below.refl _ _⟩
 have HROOM:Hid (Room s.data.toList):=zEx (by rw[zAj];omega);go_enter Tryz.func42,Tryz.ntmps42;go_wp2_with fail;refine(zGx s _ hm HROOM.out).mono ?_;rintro e w1 ⟨v1,hb1,⟨hr,rfl,rfl⟩|⟨xs,hr,rfl,hmade⟩⟩
 · have HF:Hid (zAq s.data.toList=false):=by show zAq _=_;unfold zAq;rw[hr]
   clear hr;go_wp2;refine wp_loop_rounds 1 ?_;rw[rounds_succ];go_wp2;go_ret;exact⟨by rw[HF.out];rfl,hb1⟩
 have HR:Hid (rs s.data.toList=some xs):=hr;have hlen:=(rs_len hr).2;rw[zAj]at hlen;clear hr;obtain⟨ao,cap,rfl,hc⟩:=hmade.row;have HC:Hid (0<xs.length→∃b off,ao=some ⟨b,off,none⟩∧∀i,i<xs.length→w1.cell? ⟨b,off+i,none⟩=some (.int .i32 (xs.getD i 0))):=hc;clear hc hmade;go_wp2
 go_loop [5] (fun i=>∃k:Nat,k≤xs.length∧i = .int .i64 k∧(xs.take k).all vis=true) (fun i=>xs.length-(intOf i).toNat)
 case atStart=>exact⟨0,Nat.zero_le _,rfl,rfl⟩
 case round=>
  obtain⟨k,hk,rfl,hall⟩:=hrel;have HA:Hid ((xs.take k).all vis=true):=hall;clear hall;by_cases hlt:k<xs.length
  · obtain⟨b,off,rfl,hc⟩:=HC.out (by omega)
    have hck:=hc k hlt;clear hc HC;generalize hx:xs.getD k 0=x at *;have HX:Hid (xs.getD k 0=x):=hx;clear hx;by_cases h32:x≤32
    · have HF:Hid (zAq s.data.toList=false):=zIz HR.out hlt (by rw[HX.out];simp[vis];omega)
      go_wp2;go_ret;exact⟨by rw[HF.out];rfl,hb1⟩
    by_cases h127:x=127
    · have HF:Hid (zAq s.data.toList=false):=zIz HR.out hlt (by rw[HX.out];simp[vis];omega)
      have h127':(x==127)=true:=beq_iff_eq.2 h127;clear h127;go_wp2;go_ret;exact⟨by rw[HF.out];rfl,hb1⟩
    · have h127':(x==127)=false:=beq_eq_false_iff_ne.2 h127
      (have HV:Hid (vis x=true):=by show vis x=true;simp[vis];omega);go_wp2
      go_round
      (case rel=>exact⟨k+1,by omega,by go_num,all_next hlt HA.out (by rw[HX.out];exact HV.out)⟩);case measure=>simp[intOf];omega
  · obtain rfl:k=xs.length:=by omega
    have HF:Hid (zAq s.data.toList=(decide (1≤xs.length)&&decide (xs.length≤24))):=word_of HR.out (by have:=HA.out;rwa [List.take_length]at this);by_cases h1:1≤xs.length
    · by_cases h24:xs.length≤24
      all_goals
       go_wp2;go_ret;refine⟨?_,hb1⟩;rw[HF.out];simp[h1,h24];omega
    · go_wp2
      go_ret;refine⟨?_,hb1⟩;rw[HF.out];simp[h1]
theorem zN8{xs ys:List Int}(hl:xs.length=ys.length)(h:∀j,j<xs.length→xs.getD j 0=ys.getD j 0):xs=ys:=by
 refine List.ext_getElem hl (fun i h1 h2=>?_);have:=h i h1;simpa[List.getD_eq_getElem?_getD,List.getElem?_eq_getElem h1,List.getElem?_eq_getElem h2]using this
theorem Same_any(va vb:Value)(xs ys:List Int)(w:World)(h1:Row w va xs)(h2:Row w vb ys)(hx:xs.length≤9223372036854775807)(hy:ys.length≤9223372036854775807):
 Calls Tryz.prog 163 #[va,vb] w fun e w'=>e = .returned (.bool (decide (xs=ys)))∧∃n,w'=w.drewN n:=by
 obtain⟨ao1,cap1,rfl,hc1⟩:=h1;obtain⟨ao2,cap2,rfl,hc2⟩:=h2;by_cases hl:xs.length=ys.length
 · have hlb:((xs.length:Int) != (ys.length:Int))=false:=by simp[hl]
   have HL:Hid (xs.length=ys.length):=hl;have HC1:Hid (0<xs.length→∃b off,ao1=some ⟨b,off,none⟩∧∀i,i<xs.length→w.cell? ⟨b,off+i,none⟩=some (.int .i32 (xs.getD i 0))):=hc1;have HC2:Hid (0<ys.length→∃b off,ao2=some ⟨b,off,none⟩∧∀i,i<ys.length→w.cell? ⟨b,off+i,none⟩=some (.int .i32 (ys.getD i 0))):=hc2;clear hc1 hc2 hl;go_enter Tryz.func163,Tryz.ntmps163;go_wp2
   go_loopw [5] (fun i wr=>∃k:Nat,k≤xs.length∧i = .int .i64 k∧(∀j,j<k→xs.getD j 0=ys.getD j 0)∧∃n,wr=w.drewN n) (fun i _=>xs.length-(intOf i).toNat)
   case atStart=>exact⟨0,Nat.zero_le _,rfl,fun j h=>by omega,0,rfl⟩
   case round=>
    obtain⟨k,hk,rfl,hall,nw,rfl⟩:=hrel;have HA:Hid (∀j,j<k→xs.getD j 0=ys.getD j 0):=hall;clear hall;by_cases hlt:k<xs.length
    · have hlt2:k<ys.length:=by have:=HL.out;omega
      obtain⟨g1,off1,rfl,hc1⟩:=HC1.out (by omega);obtain⟨g2,off2,rfl,hc2⟩:=HC2.out (by omega);have hck1:=hc1 k hlt;have hck2:=hc2 k hlt2;clear hc1 hc2;generalize hx':xs.getD k 0=x at *;generalize hy':ys.getD k 0=y at *;have HX:Hid (xs.getD k 0=x):=hx';have HY:Hid (ys.getD k 0=y):=hy';clear hx' hy';by_cases hxy:x=y
      · subst hxy
        have HB:Hid (∀j,j<k+1→xs.getD j 0=ys.getD j 0):=fun j h=>by
         by_cases e:j=k
         · subst e;rw[HX.out,HY.out]
         · exact HA.out j (by omega)
        go_wp2;go_quiet (fail);go_wp2
        go_roundw
        (case rel=>exact⟨k+1,by omega,by go_num,HB.out,_,rfl⟩);case measure=>simp[intOf];omega
      · have hb:(x != y)=true:=by simpa using hxy
        have HF:Hid (decide (xs=ys)=false):=decide_eq_false (fun e=>hxy (by rw[←HX.out,←HY.out,e]));clear hxy;go_wp2;go_quiet (fail);go_wp2;go_ret;exact⟨by rw[HF.out];rfl,_,by first|rfl|rw[World.drewN_drewN]⟩
    · have HF:Hid (decide (xs=ys)=true):=decide_eq_true (zN8 HL.out (fun j hj=>HA.out j (by omega)))
      go_wp2;go_ret;exact⟨by rw[HF.out];rfl,_,by first|rfl|rw[World.drewN_drewN]⟩
 · have hlb:((xs.length:Int) != (ys.length:Int))=true:=by simpa using fun e=>hl (by omega)
   have HF:Hid (decide (xs=ys)=false):=decide_eq_false (fun e=>hl (by rw[e]));clear hc1 hc2 hl;go_enter Tryz.func163,Tryz.ntmps163;go_wp2;go_ret;exact⟨by rw[HF.out];rfl,0,rfl⟩
end
