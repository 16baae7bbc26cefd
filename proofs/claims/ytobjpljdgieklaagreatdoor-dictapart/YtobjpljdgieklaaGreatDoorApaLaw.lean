/- PROVED: what is done to a clone of any dictionary is not seen in the dictionary, nor the other way round (P14.5)
   Conditions: none: every input that can be -/
import Derived.Test.YtobjpljdgieklaaGreatDoorOpsIn
import Derived.Deep.Slices
set_option maxRecDepth 100000
set_option maxHeartbeats 8000000
namespace Go.Proofs.YtobjpljdgieklaaGreatDoor
section
open Go.RowKit Go.Shelf Go.Lib Nums Fm Pk Pm Fz Ed Lv
namespace Di
structure Half(B:Nat)(W:World)(db lo hi wb:Nat)(v u:Value)(base over M:List Pr):Prop where
 dat:DictAt B W db lo hi wb v base over
 few:over.length≤32
 eq:zAc zAa base over=M
 ap:Ap db v u M
 row:PRow W u M
def Cross(db lo hi:Nat)(v u:Value)(M:List Pr)(cb:Nat)(v2:Value):Prop:=∀k,fpD cb v2 k→¬fpD db v k∧¬(lo≤k∧k<hi)∧(0<M.length→u.ownBlock≠some k)
structure TwoB(B:Nat)(W:World)(db:Nat)(u:Value)(M:List Pr)(cb:Nat)(u2:Value)(N:List Pr):Prop where
 ex:∃lo hi wb v base over lo2 hi2 wb2 v2 base2 over2,Half B W db lo hi wb v u base over M∧Half B W cb lo2 hi2 wb2 v2 u2 base2 over2 N∧Cross db lo hi v u M cb v2∧Cross cb lo2 hi2 v2 u2 N db v
theorem TwoB.swap{B:Nat}{W:World}{db cb:Nat}{u u2:Value}{M N:List Pr}(h:TwoB B W db u M cb u2 N):TwoB B W cb u2 N db u M:=by
 obtain⟨lo,hi,wb,v,base,over,lo2,hi2,wb2,v2,base2,over2,h1,h2,c1,c2⟩:=h.ex;exact⟨⟨lo2,hi2,wb2,v2,base2,over2,lo,hi,wb,v,base,over,h2,h1,c2,c1⟩⟩
theorem Half.below{B:Nat}{W W':World}{db lo hi wb:Nat}{v u:Value}{base over M:List Pr}(h:Half B W db lo hi wb v u base over M)(hb:Below W.heap.size W W'):Half B W' db lo hi wb v u base over M:=
 ⟨h.dat.below hb,h.few,h.eq,h.ap,h.row.below hb⟩
theorem TwoB.below{B:Nat}{W W':World}{db cb:Nat}{u u2:Value}{M N:List Pr}(h:TwoB B W db u M cb u2 N)(hb:Below W.heap.size W W'):TwoB B W' db u M cb u2 N:=by
 obtain⟨lo,hi,wb,v,base,over,lo2,hi2,wb2,v2,base2,over2,h1,h2,c1,c2⟩:=h.ex;exact⟨⟨lo,hi,wb,v,base,over,lo2,hi2,wb2,v2,base2,over2,h1.below hb,h2.below hb,c1,c2⟩⟩
theorem TwoB.left{B:Nat}{W:World}{db cb:Nat}{u u2:Value}{M N:List Pr}(h:TwoB B W db u M cb u2 N):BSt B W db u M:=by
 obtain⟨lo,hi,wb,v,base,over,lo2,hi2,wb2,v2,base2,over2,h1,h2,c1,c2⟩:=h.ex;exact⟨⟨lo,hi,wb,v,base,over,h1.dat,h1.few,h1.eq,h1.ap⟩,h1.row⟩
theorem two_step{B:Nat}{W w':World}{db lo hi wb cb lo2 hi2 wb2:Nat}{v u v2 u2 u':Value}{base over M base2 over2 N M':List Pr}(H1:Half B W db lo hi wb v u base over M)(H2:Half B W cb lo2 hi2 wb2 v2 u2 base2 over2 N)(C1:Cross db lo hi v u M cb v2)(C2:Cross cb lo2 hi2 v2 u2 N db v)(hd:DoSays B W w' db lo hi v u u' M'):TwoB B w' db u' M' cb u2 N:=by
 obtain⟨lo',hi',wb',v',b',o',k1,k2,k3,k4,k5,k6⟩:=hd.ex;refine⟨⟨lo',hi',wb',v',b',o',lo2,hi2,wb2,v2,base2,over2,⟨k1,k2,k3,k6,hd.row⟩,⟨H2.dat.keep (F:=fpD db v) hd.upd (fun k g=>(H1.dat.fp k g).1) (C1 cb (.inl rfl)).1 (fun k e=>(C1 k (.inr e)).1) (fun k a b g=>(C2 k g).2.1 ⟨a,b⟩),H2.few,H2.eq,H2.ap,zKx H2.row hd.upd (fun h0 k hk g=>(C2 k g).2.2 h0 hk)⟩,fun k hk=>?_,fun k hk=>?_⟩⟩
 · have hlt:=(H2.dat.fp k hk).2
   obtain⟨a,b,c⟩:=C1 k hk;refine⟨fun g=>?_,fun g=>?_,fun h0 e=>?_⟩
   · rcases g with g|g
     · exact a (.inl g)
     · rcases k4 with k4|k4
       · exact a (.inr (k4▸g))
       · have:=k4 k g;omega
   · rcases k5 with⟨e1,e2⟩|k5
     · exact b (by omega)
     · omega
   · rcases hd.new with e2|e2
     · have h3:=hd.row
       rw[e2]at e h3;exact c (by have:=zQk H1.row h3;omega) e
     · have:=e2 k e;omega
 · have:fpD db v k∨W.heap.size≤k:=by
    rcases hk with hk|hk
    · exact .inl (.inl hk)
    · rcases k4 with k4|k4
      · exact .inl (.inr (k4▸hk))
      · exact .inr (k4 k hk)
   rcases this with g|g
   · exact C2 k g
   · exact⟨fun f=>by have:=(H2.dat.fp k f).2;omega,fun f=>by have:=H2.dat.wk.1;omega,fun h0 e=>by have:=zGj H2.row h0 e;omega⟩
theorem zRh(B:Nat)(W1 W:World)(hb:Below W1.heap.size W1 W)(db:Nat)(u:Value)(M:List Pr)(cb:Nat)(u2:Value)(N:List Pr)(h:TwoB B W1 db u M cb u2 N)(o:Oo)(ho:o.2.1.size≤9223372036854775807):
 Calls Tryz.prog 15 #[.pointer (some ⟨db,0,none⟩),u,opV o] W fun e w'=>∃ad n cap,e = .returned (.tuple #[.slice ad n cap,.bool true])∧(∃M',TwoB B w' db (.slice ad n cap) M' cb u2 N)∧Below B W w'∧∀g,W1.heap.size≤g→g<W.heap.size→w'.heap[g]?=W.heap[g]?:=by
 obtain⟨lo,hi,wb,v,base,over,lo2,hi2,wb2,v2,base2,over2,h1,h2,c1,c2⟩:=h.ex;have H1:=h1.below hb;have H2:=h2.below hb;have he:=H1.eq;subst he;refine(zRi B W db lo hi wb v u base over H1.dat H1.few H1.row H1.ap o ho).mono ?_;rintro e w' ⟨ad,n,cap,rfl,hd⟩;exact⟨ad,n,cap,rfl,⟨_,two_step H1 H2 c1 c2 hd⟩,hd.upd.below H1.dat.size (fun k g=>(H1.dat.fp k g).1),fun g a b=>hd.upd.block g b (fun f=>by have:=(h1.dat.fp g f).2;omega)⟩
theorem zXl(B:Nat)(W:World)(db:Nat)(u:Value)(M:List Pr)(h:BSt B W db u M):
 Calls Tryz.prog 32 #[.pointer (some ⟨db,0,none⟩)] W fun e w'=>∃cb,e = .returned (.pointer (some ⟨cb,0,none⟩))∧TwoB B w' db u M cb u M∧Below W.heap.size W w':=by
 obtain⟨lo,hi,wb,v,base,over,h1,h2,h3,h4⟩:=h.ex;have hr:=h.row;refine(zTp B W db lo hi wb v base over h1).mono ?_;rintro e w' ⟨cb,rfl,hc⟩;obtain⟨wb2,v2,k1,k2⟩:=hc.ex;have hl:=hc.lo;have hnew:∀k,fpD cb v2 k→W.heap.size≤k:=fun k hk=>by
  rcases hk with hk|hk
  · omega
  · exact k2 k hk
 refine⟨cb,rfl,⟨⟨lo,hi,wb,v,base,over,lo,hi,wb2,v2,base,over,⟨h1.below hc.bel,h2,h3,h4,hr.below hc.bel⟩,⟨k1,h2,h3,fun h0 k hk f=>?_,hr.below hc.bel⟩,fun k hk=>?_,fun k hk=>?_⟩⟩,hc.bel⟩
 · have h5:=hnew k f
   have:=zGj hr h0 hk;omega
 · have h5:=hnew k hk
   exact⟨fun f=>by have:=(h1.fp k f).2;omega,fun f=>by have:=h1.wk.1;omega,fun h0 e=>by have:=zGj hr h0 e;omega⟩
 · have h5:=(h1.fp k hk).2
   refine⟨fun f=>by have:=hnew k f;omega,fun f=>?_,fun h0 e=>h4 h0 k e hk⟩;rcases hk with hk|hk
   · subst hk;exact h1.nw f
   · exact h1.nv k hk f
end Di
end
section
open Go.RowKit Go.Shelf Go.Lib Nums Fm Pk Pm Fz Ed Lv Di
theorem dapart_walk(v z y:Value)(w:World)(ht:Tabs w)(L:List Pr)(h:PRow w v L)(hs:Sm L)(hl:L.length≤9223372036854775807)(Z:List Oo)(hz:ORow w.heap.size w z Z)(hzs:OSm Z)(Y:List Oo)(hy:ORow w.heap.size w y Y)(hys:OSm Y):
 Calls Tryz.prog 10 #[v,z,y] w fun e w'=>e = .returned (.bool true)∧Below w.heap.size w w':=by
 have HAL:Hid (∀W,Below w.heap.size w W→Calls Tryz.prog 14 #[] W fun e w'=>e = .returned (.bool true)∧Below W.heap.size W w'):=fun W hW=>zCq W (ht.below hW)
 obtain⟨vd,vc,hv⟩:=h.form;obtain⟨zd,zc,hzv⟩:=hz.form;obtain⟨yd,yc,hyv⟩:=hy.form;by_cases hc:skip Z L∨zAf L≠0
 · have HBG:Hid (Calls Tryz.prog 13 #[v,z] w fun e w'=>e = .returned (.tuple #[.pointer none,.slice none 0 0,.bool true])∧Below w.heap.size w w'):=zEl w ht v z L _ Z h hs hl hz hc
   subst hv;subst hzv;subst hyv;generalize L.length=n at *;generalize Z.length=m at *;generalize Y.length=my at *;clear h hs hz hzs hc ht hl hy hys;go_enter Tryz.func10,Tryz.ntmps10
   go_wp2_with (first
    |(go_at_call 13;refine HBG.out.mono ?_;rintro e w1 ⟨rfl,hb1⟩;have HB1:Hid (Below w.heap.size w w1):=hb1;clear hb1)
    |(go_at_call 14;refine(HAL.out _ HB1.out).mono ?_;rintro e w2 ⟨rfl,hb2⟩;have HB2:Hid (Below w.heap.size w w2):=HB1.out.trans (hb2.mono HB1.out.size);clear hb2))
   go_ret;exact⟨by first|rfl|simp,HB2.out⟩
 · have HBG:Hid (Calls Tryz.prog 13 #[v,z] w fun e w'=>∃db ad n cap,e = .returned (.tuple #[.pointer (some ⟨db,0,none⟩),.slice ad n cap,.bool true])∧BSt w.heap.size w' db (.slice ad n cap) (Z.foldl stepL L)∧Below w.heap.size w w'):=zHn w ht v z L _ (Nat.le_refl _) Z h hs hz hzs hc
   obtain⟨M0,hM0⟩:∃M0,Z.foldl stepL L=M0:=⟨_,rfl⟩;rw[hM0]at HBG;by_cases hm:400<Y.length
   · subst hv
     subst hzv;subst hyv;generalize L.length=n at *;generalize Z.length=m at *;generalize Y.length=my at *;(have hm1:(400:Int)<(my:Int):=by omega);clear h hs hz hzs hc ht hl hy hys hm hM0;go_enter Tryz.func10,Tryz.ntmps10
     go_wp2_with (first
      |(go_at_call 13;refine HBG.out.mono ?_;rintro e w1 ⟨db,ad,an,ac,rfl,hs1,hb1⟩;have HB1:Hid (Below w.heap.size w w1):=hb1;clear hb1 hs1)
      |(go_at_call 14;refine(HAL.out _ HB1.out).mono ?_;rintro e w2 ⟨rfl,hb2⟩;have HB2:Hid (Below w.heap.size w w2):=HB1.out.trans (hb2.mono HB1.out.size);clear hb2))
     go_ret;exact⟨by first|rfl|simp,HB2.out⟩
   · obtain⟨m,hmz⟩:∃m,Y.length=m:=⟨_,rfl⟩
     rw[hmz]at hyv hm;subst hv;subst hzv;subst hyv;(have HY:Hid (∀W,Below w.heap.size w W→ORow w.heap.size W (.slice yd m yc) Y):=fun W hW=>hy.below hW);have HYL:Hid (Y.length=m):=hmz;have HYS:Hid (OSm Y):=hys;(have HSD:Hid (∀W db u M,BSt w.heap.size W db u M→Calls Tryz.prog 16 #[.pointer (some ⟨db,0,none⟩),u] W fun e w'=>e = .returned (.bool true)∧Below W.heap.size W w'):=fun W db u M hb=>zGg _ W db u M hb);(have HCL:Hid (∀W db u,BSt w.heap.size W db u M0→Calls Tryz.prog 32 #[.pointer (some ⟨db,0,none⟩)] W fun e w'=>∃cb,e = .returned (.pointer (some ⟨cb,0,none⟩))∧TwoB w.heap.size w' db u M0 cb u M0∧Below W.heap.size W w'):=fun W db u hb=>zXl _ W db u M0 hb);generalize L.length=n at *;generalize Z.length=mz at *;(have hm1:¬(400:Int)<(m:Int):=by omega);clear h hs hz hzs hc ht hl hmz hy hys hM0;go_enter Tryz.func10,Tryz.ntmps10
     go_wp2_with (first
      |(go_at_call 13;refine HBG.out.mono ?_;rintro e w1 ⟨db,ad,an,ac,rfl,hs1,hb1⟩;have HS1:Hid (BSt w.heap.size w1 db (.slice ad an ac) M0∧Below w.heap.size w w1):=⟨hs1,hb1⟩;clear hs1 hb1)
      |(go_at_call 32;refine(HCL.out _ _ _ HS1.out.1).mono ?_;rintro e w2 ⟨cb,rfl,ht2,hb2⟩;have HT0:Hid ((∃M N,TwoB w.heap.size w2 db (.slice ad an ac) M cb (.slice ad an ac) N)∧Below w.heap.size w w2):=⟨⟨_,_,ht2⟩,HS1.out.2.trans (hb2.mono HS1.out.2.size)⟩;clear ht2 hb2))
     go_loopg [8,11,12,13,14,15,16,17,47] m (fun gm s8 s11 s12 s13 s14 s15 s16 s17 s47 wr=>∃(j:Nat) (xd:Option Addr) (xn xc:Nat) (ed:Option Addr) (en ec:Nat),s47 = .int .i64 j∧j≤m∧m-j≤gm∧s8 = .slice xd xn xc∧s11 = .slice ed en ec∧Hid ((∃M N,TwoB w.heap.size wr db (.slice xd xn xc) M cb (.slice ed en ec) N)∧Below w.heap.size w wr))
     case atStart=>exact⟨0,ad,an,ac,ad,an,ac,rfl,Nat.zero_le _,by omega,rfl,rfl,HT0⟩
     case round=>
      obtain⟨j,xd,xn,xc,ed,en,ec,rfl,hj,hgm,rfl,rfl,HS⟩:=hrel;obtain⟨⟨M,N,hTW⟩,hBW⟩:=HS.out;have HTW:Hid (TwoB w.heap.size wr db (.slice xd xn xc) M cb (.slice ed en ec) N):=hTW;have HBW:Hid (Below w.heap.size w wr):=hBW;clear hTW hBW HS;by_cases hlt:j<m
      · have hltz:(j:Int)<(m:Int):=by omega
        obtain⟨o,ho⟩:∃o,Y[j]?=some o:=⟨Y[j]'(by have:=HYL.out;omega),List.getElem?_eq_getElem _⟩;obtain⟨g,off,hgo,hg,x0,x1,x2⟩:=(HY.out wr HBW.out).at ho;subst hgo;have HOS:Hid (o.2.1.size≤9223372036854775807):=HYS.out o (List.mem_of_getElem? ho);obtain⟨W5,hW5⟩:∃W5,W5=wr.alloc (.cells #[.int .i64 o.1,.string o.2.1,.int .i64 o.2.2] 29):=⟨_,rfl⟩;obtain⟨pb,hpb⟩:∃pb,pb=wr.heap.size:=⟨_,rfl⟩;(have hn5:W5.heap[pb]?=some (.cells #[.int .i64 o.1,.string o.2.1,.int .i64 o.2.2] 29):=by rw[hW5,hpb];exact zAb _ _);(have hs5:W5.heap.size=wr.heap.size+1:=by rw[hW5];simp);(have hb5:Below wr.heap.size wr W5:=by rw[hW5];exact(Below.refl _ wr).alloc (Nat.le_refl _) _);have hN5:Below w.heap.size w W5:=HBW.out.trans (hb5.mono HBW.out.size);(have y0:W5.cell? ⟨pb,0,none⟩=some (.int .i64 o.1):=by simp[World.cell?,hn5]);(have y1:W5.cell? ⟨pb,1,none⟩=some (.string o.2.1):=by simp[World.cell?,hn5]);(have y2:W5.cell? ⟨pb,2,none⟩=some (.int .i64 o.2.2):=by simp[World.cell?,hn5]);have HDO:Hid (Calls Tryz.prog 15 #[.pointer (some ⟨cb,0,none⟩),.slice ed en ec,.agg #[.int .i64 o.1,.string o.2.1,.int .i64 o.2.2]] W5 fun e w'=>∃ad n cap,e = .returned (.tuple #[.slice ad n cap,.bool true])∧(∃M',TwoB w.heap.size w' cb (.slice ad n cap) M' db (.slice xd xn xc) M)∧Below w.heap.size W5 w'∧∀g,wr.heap.size≤g→g<W5.heap.size→w'.heap[g]?=W5.heap[g]?):=zRh _ wr W5 hb5 cb _ _ db _ _ HTW.out.swap o HOS.out;have HAF:Hid (∀w6:World,(∀g,wr.heap.size≤g→g<W5.heap.size→w6.heap[g]?=W5.heap[g]?)→w6.cell? ⟨pb,0,none⟩=some (.int .i64 o.1)∧w6.cell? ⟨pb,1,none⟩=some (.string o.2.1)∧w6.cell? ⟨pb,2,none⟩=some (.int .i64 o.2.2)):=fun w6 h6=>by
         have h7:=(h6 pb (by omega) (by omega)).trans hn5;exact⟨by simp[World.cell?,h7],by simp[World.cell?,h7],by simp[World.cell?,h7]⟩
        have HN5:Hid (Below w.heap.size w W5):=hN5;clear ho hn5 hb5 hg hs5 hN5;(go_upto_region 11 with fail);rw[←hpb,←hW5];clear hpb hW5 x0 x1 x2;(go_upto_region 12 with(go_at_call 15;refine HDO.out.mono ?_;rintro e w6 ⟨a6,n6,c6,rfl,⟨M6,ht6⟩,hb6,h6⟩;obtain⟨z0,z1,z2⟩:=HAF.out w6 h6;have HT6:Hid (TwoB w.heap.size w6 db (.slice xd xn xc) M cb (.slice a6 n6 c6) M6):=ht6.swap;have HN6:Hid (Below w.heap.size w w6):=HN5.out.trans hb6;clear ht6 hb6 h6 y0 y1 y2));by_cases hj2:j%2=1
        · have htm:Int.tmod (j:Int) 2=1:=by rw[Int.tmod_eq_emod_of_nonneg (by omega)];omega
          have HD2:Hid (Calls Tryz.prog 15 #[.pointer (some ⟨db,0,none⟩),.slice xd xn xc,.agg #[.int .i64 o.1,.string o.2.1,.int .i64 o.2.2]] w6 fun e w'=>∃ad n cap,e = .returned (.tuple #[.slice ad n cap,.bool true])∧(∃M',TwoB w.heap.size w' db (.slice ad n cap) M' cb (.slice a6 n6 c6) M6)∧Below w.heap.size w6 w'∧∀g,w6.heap.size≤g→g<w6.heap.size→w'.heap[g]?=w6.heap[g]?):=zRh _ w6 w6 (Below.refl _ _) db _ _ cb _ _ HT6.out o HOS.out;go_wp2_with (go_at_call 15;refine HD2.out.mono ?_;rintro e w7 ⟨a7,n7,c7,rfl,⟨M7,ht7⟩,hb7,_⟩;have HT7:Hid ((∃M N,TwoB w.heap.size w7 db (.slice a7 n7 c7) M cb (.slice a6 n6 c6) N)∧Below w.heap.size w w7):=⟨⟨_,_,ht7⟩,HN6.out.trans hb7⟩;clear ht7 hb7);go_roundg (m-(j+1));(case measure=>omega);case rel=>exact⟨j+1,a7,n7,c7,a6,n6,c6,by go_num,by omega,Nat.le_refl _,rfl,rfl,HT7⟩
        · have htm:Int.tmod (j:Int) 2=0:=by rw[Int.tmod_eq_emod_of_nonneg (by omega)];omega
          have HT7:Hid ((∃M N,TwoB w.heap.size w6 db (.slice xd xn xc) M cb (.slice a6 n6 c6) N)∧Below w.heap.size w w6):=⟨⟨_,_,HT6.out⟩,HN6.out⟩;go_wp2;go_roundg (m-(j+1));(case measure=>omega);case rel=>exact⟨j+1,xd,xn,xc,a6,n6,c6,by go_num,by omega,Nat.le_refl _,rfl,rfl,HT7⟩
      · have hltz:¬(j:Int)<(m:Int):=by omega
        go_upto_region 21 with fail
        go_wp2_with (first
         |(go_at_call 14;refine(HAL.out _ HBW.out).mono ?_;rintro e w8 ⟨rfl,hb8⟩;have HT8:Hid (TwoB w.heap.size w8 db (.slice xd xn xc) M cb (.slice ed en ec) N∧Below w.heap.size w w8):=⟨HTW.out.below hb8,HBW.out.trans (hb8.mono HBW.out.size)⟩;clear hb8)
         |(go_at_call 16;first
          |(refine(HSD.out _ _ _ _ HT9.out.1.swap.left).mono ?_;rintro e w10 ⟨rfl,hb10⟩;have HB10:Hid (Below w.heap.size w w10):=HT9.out.2.trans (hb10.mono HT9.out.2.size);clear hb10)
          |(refine(HSD.out _ _ _ _ HT8.out.1.left).mono ?_;rintro e w9 ⟨rfl,hb9⟩;have HT9:Hid (TwoB w.heap.size w9 db (.slice xd xn xc) M cb (.slice ed en ec) N∧Below w.heap.size w w9):=⟨HT8.out.1.below hb9,HT8.out.2.trans (hb9.mono HT8.out.2.size)⟩;clear hb9)))
        go_ret;exact⟨by first|rfl|simp,HB10.out⟩
end
section
open Go.ChangeShapes Go.WideShapes Go.ChangeAt Go.RowKit
open Go.ChangeMaps (open_string shut_string)
theorem dapart_contract(H:Type)(enc:TypeId×Value→H)(W:World)(base:Nat)(args:Array Value)(ds gs:List (DataW H))(before:List MemPlace)
 (hval:∀(j:Nat) t v,Tryz.f10.params[j]?=some t→args[j]?=some v→Value.okWide Tryz.prog W .any base t v)
 (hW:DataW.Whole enc Tryz.prog Tryz.f10.params.toList Rows.dictApartSpec.vars false W args.toList ds gs before) (hL:laidMetH Tryz.prog Rows.dictApartRow.laid W):
 Calls Tryz.prog 10 args W fun e W'=>∃v,e = .returned v∧Rows.dictApartSpec.post enc Tryz.prog Tryz.f10 false true false false W args v W':=by
 have hW':=hW;obtain⟨p,q,hA0,hV,rfl,hfz,hnd⟩:=hW;have hA:DataW.TrodAll enc Tryz.prog W 0 (fun _=>true) true Tryz.f10.params.toList args.toList ds p:=hA0;rw[Tryz.params10]at hA hval;obtain⟨v0,vs0,d0,ds0,p0,q0,hargs,rfl,rfl,h0,r0⟩:=trodAll_cons hA;obtain⟨v1,vs1,d1,ds1,p1,q1,rfl,rfl,rfl,h1,r1⟩:=trodAll_cons r0;obtain⟨v2,vs2,d2,ds2,p2,q2,rfl,rfl,rfl,h2,r2⟩:=trodAll_cons r1;obtain⟨rfl,rfl,rfl⟩:=trodAll_nil r2;obtain rfl:args=#[v0,v1,v2]:=by cases args;simp_all
 obtain⟨rfl,rfl⟩:=trodVars_none hV;obtain⟨L0,hR0,hS0,hl0,hbig0⟩:=zFm (hval 0 22 v0 rfl rfl) h0;obtain⟨L1,hR1,hS1,hbig1⟩:=Di.ops_in (hval 1 23 v1 rfl rfl) h1;obtain⟨L2,hR2,hS2,hbig2⟩:=Di.ops_in (hval 2 23 v2 rfl rfl) h2;clear hA0;simp only[List.append_nil]at hW';refine(dapart_walk v0 v1 v2 W (zB6 hL) L0 hR0 hS0 hl0 L1 hR1 hS1 L2 hR2 hS2).mono fun e W' ⟨he,hb⟩=>?_
 subst he;have harg2:=Below.trod zCa (by kernel_rfl) (of_decide_eq_true (by kernel_rfl)) h2 hb (fun x hx=>hW'.lt x (by simp[hx]));have harg1:=Below.trod zCa (by kernel_rfl) (of_decide_eq_true (by kernel_rfl)) h1 hb (fun x hx=>hW'.lt x (by simp[hx]));have harg0:=Below.trod zCa (by kernel_rfl) (of_decide_eq_true (by kernel_rfl)) h0 hb (fun x hx=>hW'.lt x (by simp[hx]))
 exact⟨_,rfl,_,_,_,[],_,[],hW',trodAll_cons_mk (shut_bool Tryz.underlying4 _) trodAll_mk0,
  trodAll_cons_mk harg0 (trodAll_cons_mk harg1 (trodAll_cons_mk harg2 trodAll_mk0)),rfl,hb.frame _,fun h=>by cases h⟩
theorem zO7(os:Os):laidMet Tryz.prog Rows.dictApartRow.laid ((laidWorld os).forCall (fun _ _=>0) ⟨#[],#[.slice none 0 0,.slice none 0 0,.slice none 0 0],[]⟩).memory:=
 laidMet_of_run' 8 (by kernel_rfl) (by kernel_rfl)
theorem zNi(os:Os){H:Type}(enc:TypeId×Value→H):∃places,DataW.whole enc Tryz.prog ((laidWorld os).forCall (fun _ _=>0) ⟨#[],#[.slice none 0 0,.slice none 0 0,.slice none 0 0],[]⟩).memory Tryz.f10.params.toList Rows.dictApartSpec.vars false #[Value.slice none 0 0,Value.slice none 0 0,Value.slice none 0 0].toList 8=some ([.nil,.nil,.nil],[],places):=
 ⟨[],by kernel_rfl⟩
theorem zLk(os:Os)(started:os.Started)(H:Type)(enc:TypeId×Value→H)(F:Stop.Interp):
 ReturnsInHanded {} Tryz.checked os 10 .any ((OpenSpec.ofChange Rows.dictApartSpec).preRow enc Tryz.prog Tryz.f10 Rows.dictApartRow.domain false Rows.dictApartRow.laid) (((OpenSpec.ofChange Rows.dictApartSpec).at F).post enc Tryz.prog Tryz.f10 false true false false):=by
 obtain⟨places,hx⟩:=zNi os enc
 refine returnsInHanded_of_row (C:=Tryz.checked) (s:=OpenSpec.ofChange Rows.dictApartSpec) own started (by kernel_rfl) Tryz.func10
  (witness_row_at (enc:=enc) (C:=Tryz.checked) false (laidWorld os) #[.slice none 0 0,.slice none 0 0,.slice none 0 0] rfl (by kernel_rfl) (by kernel_rfl) (by kernel_rfl)
   (OpenSpec.preRow_of_cond 8 hx (by kernel_rfl) (fun k hk=>by cases hk) (by kernel_rfl) (zO7 os))) ?_
 intro W base args ds gs before hval hW _ _ _ hL _ _;exact dapart_contract H enc W base args ds gs before hval hW hL
theorem zO6:Rows.DictApartSaid:=
 OpenClaim.holds_of_cond 10 Tryz.f10 rfl rfl rfl rfl rfl rfl rfl ⟨rfl,rfl,rfl,rfl,rfl⟩ rfl rfl rfl rfl rfl (by kernel_rfl) Tryz.func10 (by kernel_rfl)
  (of_decide_eq_true (by kernel_rfl)) (by unfold Func.isWrapper;first|(rw[if_pos (by decide +kernel)];kernel_rfl)|(rw[if_neg (by decide +kernel)];exact⟨rfl,rfl⟩))
  (fun os started H enc _ F=>by rw[OpenClaim.pre_eq_preRow];exact zLk os started H enc F)
theorem zNj (f : FuncId) (fn : Func) (hf : Tryz.pinned.checked.prog.funcNamed "abecedary/abecedarylaw14.DictApart" = some f) (hfn : Tryz.pinned.checked.prog.funcs[f]? = some fn) :
 true=Tryz.pinned.checked.prog.looks []∧∀(j:Nat) t,fn.params[j]?=some t→Tryz.pinned.checked.prog.wantsStandIn t=false:=by
 obtain rfl : f = 10 := Option.some.inj ((show Tryz.prog.funcNamed "abecedary/abecedarylaw14.DictApart" = some 10 by kernel_rfl).symm.trans hf) |>.symm;obtain rfl:fn=Tryz.f10:=(Option.some.inj (Tryz.func10.symm.trans hfn)).symm;refine⟨by kernel_rfl,fun j t ht=>?_⟩;rw[Tryz.params10]at ht;have hm:=Array.mem_of_getElem? ht;simp only[List.mem_toArray,List.mem_cons,List.not_mem_nil,or_false]at hm;rcases hm with rfl|rfl|rfl
 · exact(show Tryz.prog.wantsStandIn 22=false by kernel_rfl)
 · exact(show Tryz.prog.wantsStandIn 23=false by kernel_rfl)
 · exact(show Tryz.prog.wantsStandIn 23=false by kernel_rfl)
theorem dapart_card:Rows.DictApartCardSaid:=
 Claim7.holds_tied_plain_at .later [] _ _ _ _ zO6 (fun _ h=>by cases h) (by kernel_rfl) (fun _ h=>by cases h) dictApart_row_tie rfl ⟨rfl,rfl⟩ (by kernel_rfl) rfl zNj (by kernel_rfl)
end
