import Derived.Test.YtobjpljdgieklaaGreatDoorDiTwo
namespace Go.Proofs.YtobjpljdgieklaaGreatDoor
open Go.RowKit Go.Shelf Go.Lib Nums Fm Pk Pm Fz Ed Lv Di
set_option maxRecDepth 100000
set_option maxHeartbeats 2000000 in
theorem dapart_walk(v z y:Value)(w:World)(ht:Tabs w)(L:List Pr)(h:PRow w v L)(hs:Sm L)(hl:L.length≤9223372036854775807)(Z:List Oo)(hz:ORow w.heap.size w z Z)(hzs:OSm Z)(Y:List Oo)(hy:ORow w.heap.size w y Y)(hys:OSm Y):
 Calls Tryz.prog 10 #[v,z,y] w fun e w'=>e = .returned (.bool true)∧Below w.heap.size w w':=by
 have HAL:Hid (∀W,Below w.heap.size w W→Calls Tryz.prog 14 #[] W fun e w'=>e = .returned (.bool true)∧Below W.heap.size W w'):=fun W hW=>zCq W (ht.below hW)
 obtain⟨vd,vc,hv⟩:=h.form;obtain⟨zd,zc,hzv⟩:=hz.form;obtain⟨yd,yc,hyv⟩:=hy.form;by_cases hc:skip Z L∨zAf L≠0
 · have HBG:Hid (Calls Tryz.prog 13 #[v,z] w fun e w'=>e = .returned (.tuple #[.pointer none,.slice none 0 0,.bool true])∧Below w.heap.size w w'):=zEl w ht v z L _ Z h hs hl hz hc
   subst hv;subst hzv;subst hyv;generalize L.length=n at *;generalize Z.length=m at *;generalize Y.length=my at *;clear h hs hz hzs hc ht hl hy hys;go_enter Tryz.func10,Tryz.ntmps10
   go_wp2_with (first
    |(go_at_call 13;refine HBG.out.mono ?_;rintro e w1 ⟨rfl,hb1⟩;have HB1:Hid (Below w.heap.size w w1):=hb1;clear hb1)
    |(go_at_call 14;refine(HAL.out _ HB1.out).mono ?_;rintro e w2 ⟨rfl,hb2⟩;have HB2:Hid (Below w.heap.size w w2):=HB1.out.trans (hb2.mono HB1.out.size);clear hb2))
   go_ret;exact⟨by first|rfl|simp,HB2.out⟩
 · have HBG:Hid (Calls Tryz.prog 13 #[v,z] w fun e w'=>∃db ad n cap,e = .returned (.tuple #[.pointer (some ⟨db,0,none⟩),.slice ad n cap,.bool true])∧BSt w.heap.size w' db (.slice ad n cap) (Z.foldl stepL L)∧Below w.heap.size w w'):=zHn w ht v z L _ (Nat.le_refl _) Z h hs hz hzs hc
   obtain⟨M0,hM0⟩:∃M0,Z.foldl stepL L=M0:=⟨_,rfl⟩;rw[hM0]at HBG;by_cases hm:400<Y.length
   · subst hv
     subst hzv;subst hyv;generalize L.length=n at *;generalize Z.length=m at *;generalize Y.length=my at *;(have hm1:(400:Int)<(my:Int):=by omega);clear h hs hz hzs hc ht hl hy hys hm hM0;go_enter Tryz.func10,Tryz.ntmps10
     go_wp2_with (first
      |(go_at_call 13;refine HBG.out.mono ?_;rintro e w1 ⟨db,ad,an,ac,rfl,hs1,hb1⟩;have HB1:Hid (Below w.heap.size w w1):=hb1;clear hb1 hs1)
      |(go_at_call 14;refine(HAL.out _ HB1.out).mono ?_;rintro e w2 ⟨rfl,hb2⟩;have HB2:Hid (Below w.heap.size w w2):=HB1.out.trans (hb2.mono HB1.out.size);clear hb2))
     go_ret;exact⟨by first|rfl|simp,HB2.out⟩
   · obtain⟨m,hmz⟩:∃m,Y.length=m:=⟨_,rfl⟩
     rw[hmz]at hyv hm;subst hv;subst hzv;subst hyv;(have HY:Hid (∀W,Below w.heap.size w W→ORow w.heap.size W (.slice yd m yc) Y):=fun W hW=>hy.below hW);have HYL:Hid (Y.length=m):=hmz;have HYS:Hid (OSm Y):=hys;(have HSD:Hid (∀W db u M,BSt w.heap.size W db u M→Calls Tryz.prog 16 #[.pointer (some ⟨db,0,none⟩),u] W fun e w'=>e = .returned (.bool true)∧Below W.heap.size W w'):=fun W db u M hb=>zGg _ W db u M hb);(have HCL:Hid (∀W db u,BSt w.heap.size W db u M0→Calls Tryz.prog 32 #[.pointer (some ⟨db,0,none⟩)] W fun e w'=>∃cb,e = .returned (.pointer (some ⟨cb,0,none⟩))∧TwoB w.heap.size w' db u M0 cb u M0∧Below W.heap.size W w'):=fun W db u hb=>zXl _ W db u M0 hb);generalize L.length=n at *;generalize Z.length=mz at *;(have hm1:¬(400:Int)<(m:Int):=by omega);clear h hs hz hzs hc ht hl hmz hy hys hM0;go_enter Tryz.func10,Tryz.ntmps10
     go_wp2_with (first
      |(go_at_call 13;refine HBG.out.mono ?_;rintro e w1 ⟨db,ad,an,ac,rfl,hs1,hb1⟩;have HS1:Hid (BSt w.heap.size w1 db (.slice ad an ac) M0∧Below w.heap.size w w1):=⟨hs1,hb1⟩;clear hs1 hb1)
      |(go_at_call 32;refine(HCL.out _ _ _ HS1.out.1).mono ?_;rintro e w2 ⟨cb,rfl,ht2,hb2⟩;have HT0:Hid ((∃M N,TwoB w.heap.size w2 db (.slice ad an ac) M cb (.slice ad an ac) N)∧Below w.heap.size w w2):=⟨⟨_,_,ht2⟩,HS1.out.2.trans (hb2.mono HS1.out.2.size)⟩;clear ht2 hb2))
     go_loopg [8,11,12,13,14,15,16,17,47] m (fun gm s8 s11 s12 s13 s14 s15 s16 s17 s47 wr=>∃(j:Nat) (xd:Option Addr) (xn xc:Nat) (ed:Option Addr) (en ec:Nat),s47 = .int .i64 j∧j≤m∧m-j≤gm∧s8 = .slice xd xn xc∧s11 = .slice ed en ec∧Hid ((∃M N,TwoB w.heap.size wr db (.slice xd xn xc) M cb (.slice ed en ec) N)∧Below w.heap.size w wr))
     case atStart=>exact⟨0,ad,an,ac,ad,an,ac,rfl,Nat.zero_le _,by omega,rfl,rfl,HT0⟩
     case round=>
      obtain⟨j,xd,xn,xc,ed,en,ec,rfl,hj,hgm,rfl,rfl,HS⟩:=hrel;obtain⟨⟨M,N,hTW⟩,hBW⟩:=HS.out;have HTW:Hid (TwoB w.heap.size wr db (.slice xd xn xc) M cb (.slice ed en ec) N):=hTW;have HBW:Hid (Below w.heap.size w wr):=hBW;clear hTW hBW HS;by_cases hlt:j<m
      · have hltz:(j:Int)<(m:Int):=by omega
        obtain⟨o,ho⟩:∃o,Y[j]?=some o:=⟨Y[j]'(by have:=HYL.out;omega),List.getElem?_eq_getElem _⟩;obtain⟨g,off,hgo,hg,x0,x1,x2⟩:=(HY.out wr HBW.out).at ho;subst hgo;have HOS:Hid (o.2.1.size≤9223372036854775807):=HYS.out o (List.mem_of_getElem? ho);obtain⟨W5,hW5⟩:∃W5,W5=wr.alloc (.cells #[.int .i64 o.1,.string o.2.1,.int .i64 o.2.2] 29):=⟨_,rfl⟩;obtain⟨pb,hpb⟩:∃pb,pb=wr.heap.size:=⟨_,rfl⟩;(have hn5:W5.heap[pb]?=some (.cells #[.int .i64 o.1,.string o.2.1,.int .i64 o.2.2] 29):=by rw[hW5,hpb];exact zAb _ _);(have hs5:W5.heap.size=wr.heap.size+1:=by rw[hW5];simp);(have hb5:Below wr.heap.size wr W5:=by rw[hW5];exact(Below.refl _ wr).alloc (Nat.le_refl _) _);have hN5:Below w.heap.size w W5:=HBW.out.trans (hb5.mono HBW.out.size);(have y0:W5.cell? ⟨pb,0,none⟩=some (.int .i64 o.1):=by simp[World.cell?,hn5]);(have y1:W5.cell? ⟨pb,1,none⟩=some (.string o.2.1):=by simp[World.cell?,hn5]);(have y2:W5.cell? ⟨pb,2,none⟩=some (.int .i64 o.2.2):=by simp[World.cell?,hn5]);have HDO:Hid (Calls Tryz.prog 15 #[.pointer (some ⟨cb,0,none⟩),.slice ed en ec,.agg #[.int .i64 o.1,.string o.2.1,.int .i64 o.2.2]] W5 fun e w'=>∃ad n cap,e = .returned (.tuple #[.slice ad n cap,.bool true])∧(∃M',TwoB w.heap.size w' cb (.slice ad n cap) M' db (.slice xd xn xc) M)∧Below w.heap.size W5 w'∧∀g,wr.heap.size≤g→g<W5.heap.size→w'.heap[g]?=W5.heap[g]?):=zRh _ wr W5 hb5 cb _ _ db _ _ HTW.out.swap o HOS.out;have HAF:Hid (∀w6:World,(∀g,wr.heap.size≤g→g<W5.heap.size→w6.heap[g]?=W5.heap[g]?)→w6.cell? ⟨pb,0,none⟩=some (.int .i64 o.1)∧w6.cell? ⟨pb,1,none⟩=some (.string o.2.1)∧w6.cell? ⟨pb,2,none⟩=some (.int .i64 o.2.2)):=fun w6 h6=>by
         have h7:=(h6 pb (by omega) (by omega)).trans hn5;exact⟨by simp[World.cell?,h7],by simp[World.cell?,h7],by simp[World.cell?,h7]⟩
        have HN5:Hid (Below w.heap.size w W5):=hN5;clear ho hn5 hb5 hg hs5 hN5;(go_upto_region 11 with fail);rw[←hpb,←hW5];clear hpb hW5 x0 x1 x2;(go_upto_region 12 with(go_at_call 15;refine HDO.out.mono ?_;rintro e w6 ⟨a6,n6,c6,rfl,⟨M6,ht6⟩,hb6,h6⟩;obtain⟨z0,z1,z2⟩:=HAF.out w6 h6;have HT6:Hid (TwoB w.heap.size w6 db (.slice xd xn xc) M cb (.slice a6 n6 c6) M6):=ht6.swap;have HN6:Hid (Below w.heap.size w w6):=HN5.out.trans hb6;clear ht6 hb6 h6 y0 y1 y2));by_cases hj2:j%2=1
        · have htm:Int.tmod (j:Int) 2=1:=by rw[Int.tmod_eq_emod_of_nonneg (by omega)];omega
          have HD2:Hid (Calls Tryz.prog 15 #[.pointer (some ⟨db,0,none⟩),.slice xd xn xc,.agg #[.int .i64 o.1,.string o.2.1,.int .i64 o.2.2]] w6 fun e w'=>∃ad n cap,e = .returned (.tuple #[.slice ad n cap,.bool true])∧(∃M',TwoB w.heap.size w' db (.slice ad n cap) M' cb (.slice a6 n6 c6) M6)∧Below w.heap.size w6 w'∧∀g,w6.heap.size≤g→g<w6.heap.size→w'.heap[g]?=w6.heap[g]?):=zRh _ w6 w6 (Below.refl _ _) db _ _ cb _ _ HT6.out o HOS.out;go_wp2_with (go_at_call 15;refine HD2.out.mono ?_;rintro e w7 ⟨a7,n7,c7,rfl,⟨M7,ht7⟩,hb7,_⟩;have HT7:Hid ((∃M N,TwoB w.heap.size w7 db (.slice a7 n7 c7) M cb (.slice a6 n6 c6) N)∧Below w.heap.size w w7):=⟨⟨_,_,ht7⟩,HN6.out.trans hb7⟩;clear ht7 hb7);go_roundg (m-(j+1));(case measure=>omega);case rel=>exact⟨j+1,a7,n7,c7,a6,n6,c6,by go_num,by omega,Nat.le_refl _,rfl,rfl,HT7⟩
        · have htm:Int.tmod (j:Int) 2=0:=by rw[Int.tmod_eq_emod_of_nonneg (by omega)];omega
          have HT7:Hid ((∃M N,TwoB w.heap.size w6 db (.slice xd xn xc) M cb (.slice a6 n6 c6) N)∧Below w.heap.size w w6):=⟨⟨_,_,HT6.out⟩,HN6.out⟩;go_wp2;go_roundg (m-(j+1));(case measure=>omega);case rel=>exact⟨j+1,xd,xn,xc,a6,n6,c6,by go_num,by omega,Nat.le_refl _,rfl,rfl,HT7⟩
      · have hltz:¬(j:Int)<(m:Int):=by omega
        go_upto_region 21 with fail
        go_wp2_with (first
         |(go_at_call 14;refine(HAL.out _ HBW.out).mono ?_;rintro e w8 ⟨rfl,hb8⟩;have HT8:Hid (TwoB w.heap.size w8 db (.slice xd xn xc) M cb (.slice ed en ec) N∧Below w.heap.size w w8):=⟨HTW.out.below hb8,HBW.out.trans (hb8.mono HBW.out.size)⟩;clear hb8)
         |(go_at_call 16;first
          |(refine(HSD.out _ _ _ _ HT9.out.1.swap.left).mono ?_;rintro e w10 ⟨rfl,hb10⟩;have HB10:Hid (Below w.heap.size w w10):=HT9.out.2.trans (hb10.mono HT9.out.2.size);clear hb10)
          |(refine(HSD.out _ _ _ _ HT8.out.1.left).mono ?_;rintro e w9 ⟨rfl,hb9⟩;have HT9:Hid (TwoB w.heap.size w9 db (.slice xd xn xc) M cb (.slice ed en ec) N∧Below w.heap.size w w9):=⟨HT8.out.1.below hb9,HT8.out.2.trans (hb9.mono HT8.out.2.size)⟩;clear hb9)))
        go_ret;exact⟨by first|rfl|simp,HB10.out⟩
