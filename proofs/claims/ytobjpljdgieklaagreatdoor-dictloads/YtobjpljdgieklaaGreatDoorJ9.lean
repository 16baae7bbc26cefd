import Derived.Test.YtobjpljdgieklaaGreatDoorJ6
import Derived.Shelf.Lay
import Derived.Ground.SlsfProg
import Derived.Laws.AppendOwnNone
import Derived.Test.YtobjpljdgieklaaGreatDoorJ5
set_option maxRecDepth 100000
set_option maxHeartbeats 8000000
namespace Go.Proofs.YtobjpljdgieklaaGreatDoor
section
open Go.RowKit Go.Shelf Go.Lib Go.Sort Pm
set_option maxRecDepth 1000000
shelf_lay_g SlLaysF0.n20 Slsf 20 at Tryz 180 as insP
theorem insertion_any(blk off n cap:Nat)(w0 w:World)(R:RowP w0 blk off n)(A X B:List Pr)(S:SWK encP 2 w0 blk off (A++(X++B)).toArray w)(hn:(A++(X++B)).length=n)(a b:Nat)(ha:a=A.length)(hb:b=A.length+X.length):
 Calls Tryz.prog 180 #[.slice (some ⟨blk,off,none⟩) n cap,.int .i64 a,.int .i64 b,.func (.func 136) #[] #[]] w fun e w'=>e = .returned (.tuple #[])∧∃X',Stably zAa X X'∧SWK encP 2 w0 blk off (A++(X'++B)).toArray w':=by
 have eg:∀args w,(callFunc 136 args).run Tryz.prog w = .ok (.enter 136 args) w:=enters_of Tryz.func136 (by kernel_rfl) rfl;have hs:(A++(X++B)).toArray.size=n:=by simpa using hn
 obtain⟨⟨d0,e0,K⟩,hbig⟩:=R;have H:=(⟨⟨d0,e0,K⟩,hbig⟩:RowP w0 blk off n).holds S hs;have hc:=AnyQ.insertionSortCmpFunc insP 2 Tryz.isAgg64 Tryz.sizeOf64 encP encP_k encP_one cfP 136 #[] blk off cap a b (A++(X++B)).toArray w eg (byWord_lays blk off _ w) H (S.lt K.hblk) (by omega) (by simp;omega) (by rw[hs];exact hbig);rw[hs]at hc;refine hc.mono ?_;rintro e w' ⟨rfl,q,os,rfl⟩;refine⟨rfl,?_⟩;obtain⟨X',e1,e2⟩:=ins_list lessB_sto A X B;rw[cfP_ltf,ha,hb,e1];refine⟨X',e2,S.on K.hblk q _ os ?_⟩;have:=e2.len;simp;omega
structure Blk(s:Nat)(C:List (List Pr))(Z:List Pr):Prop where
 all:∀c∈C,c.length=s∧Up zAa c
 up:Up zAa Z
 lt:Z.length<s
theorem flat_len6{s:Nat}:∀{C:List (List Pr)},(∀c∈C,c.length=s∧Up zAa c)→C.flatten.length=s*C.length
 |[],_=>by simp
 |c::C,h=>by
  have h1:=(h c (List.mem_cons_self ..)).1;have h2:=flat_len6 (C:=C) fun x hx=>h x (List.mem_cons_of_mem _ hx)
  rw[List.flatten_cons,List.length_append,h1,h2,List.length_cons,Nat.mul_add];omega
theorem blk_done{s n:Nat}{C:List (List Pr)}{Z:List Pr}(h:Blk s C Z)(hs:0<s)(hn:(C.flatten++Z).length=n)(hns:n≤s):Up zAa (C.flatten++Z):=by
 have h1:=flat_len6 h.all;rw[List.length_append,h1]at hn
 match C,h,hn with
 |[],h,_=>simpa using h.up
 |[c],h,hn=>
  have:Z=[]:=List.eq_nil_of_length_eq_zero (by simp at hn;omega);subst this;simpa using(h.all c (List.mem_cons_self ..)).2
 |c::d::C,h,hn=>
  exfalso;rw[List.length_cons,List.length_cons]at hn;have:s*(C.length+1+1)=s*C.length+s+s:=by rw[Nat.mul_add,Nat.mul_add];omega
  omega
theorem of_same_mid{A X X' B:List Pr}(h:Stably zAa X X')(k:ByteArray):Pm.of k (A++(X'++B))=Pm.of k (A++(X++B)):=by
 rw[of_append,of_append,of_append,of_append,h.2]
set_option maxRecDepth 1000000
theorem stable_any(blk off n cap:Nat)(w0 w:World)(R:RowP w0 blk off n)(hn50:n<1125899906842624)(l0:List Pr)(S:SWK encP 2 w0 blk off l0.toArray w)(hn:l0.length=n):
 Calls Tryz.prog 165 #[.slice (some ⟨blk,off,none⟩) n cap,.int .i64 n,.func (.func 136) #[] #[]] w fun e w'=>e = .returned (.tuple #[])∧∃l',Stably zAa l0 l'∧SWK encP 2 w0 blk off l'.toArray w':=by
 have S0:Aside (SWK encP 2 w0 blk off l0.toArray w):=S;have HN:Hid (l0.length=n):=hn;clear S hn;go_enter Tryz.func165,Tryz.ntmps165;go_wp2
 go_loopg [7,8] n (fun g s7 s8 wr=>∃(a:Nat) (C:List (List Pr)) (Z:List Pr),s7 = .int .i64 a∧s8 = .int .i64 ((a+20:Nat):Int)∧a≤n∧n-a≤g∧Aside (SWK encP 2 w0 blk off (C.flatten++Z).toArray wr)∧Hid ((∀c∈C,c.length=20∧Up zAa c)∧C.flatten.length=a∧(C.flatten++Z).length=n∧∀k,Pm.of k (C.flatten++Z)=Pm.of k l0))
 case atStart=>exact⟨0,[],l0,rfl,by go_num,Nat.zero_le _,by omega,S0,(show Hid _ from⟨fun c hc=>absurd hc (List.not_mem_nil),rfl,HN.out,fun _=>rfl⟩)⟩
 case round=>
  clear S0;obtain⟨a,C,Z,rfl,rfl,han,hg,S1,H⟩:=hrel;by_cases hle:a+20≤n
  · have hlez:((a+20:Nat):Int)≤(n:Int):=by omega
    obtain⟨Z1,Z2,hZ,hZ1⟩:=zDw Z 20 (by have h:=H.out.2.2.1;rw[List.length_append,H.out.2.1]at h;omega);have HZ:Hid (Z=Z1++Z2∧Z1.length=20):=⟨hZ,hZ1⟩;have hc:=insertion_any blk off n cap w0 wr R C.flatten Z1 Z2 (by have h:=S1.out;rw[hZ]at h;exact h) (by have h:=H.out.2.2.1;rw[hZ]at h;exact h) a (a+20) H.out.2.1.symm (by rw[H.out.2.1,hZ1]);(have eb:((a+20:Nat):Int)+20=((a+20+20:Nat):Int):=by omega);clear hZ hZ1 S1;go_wp2_with (go_at_call 180;refine hc.mono ?_;rintro e w2 ⟨rfl,X,hX,S2⟩);have HX:Hid (Stably zAa Z1 X):=hX;have S3:Aside (SWK encP 2 w0 blk off ((C++[X]).flatten++Z2).toArray w2):=aside (by have h:=S2;simpa using h);clear hX S2;go_roundg (n-(a+20));case measure=>omega
    case rel=>
     refine⟨a+20,C++[X],Z2,by first|rfl|go_num,by first|rfl|go_num|rw[←eb],hle,Nat.le_refl _,S3,?_,?_,?_,?_⟩
     · intro c hcm
       rcases List.mem_append.1 hcm with h|h
       · exact H.out.1 c h
       · rw[List.mem_singleton.1 h]
         exact⟨by rw[HX.out.len,HZ.out.2],HX.out.1⟩
     · have h1:=H.out.2.1
       have h2:=HX.out.len;have h3:=HZ.out.2;simp at h1 ⊢;omega
     · have h1:=H.out.2.2.1
       have h2:=HX.out.len;rw[HZ.out.1]at h1;simp at h1 ⊢;omega
     · intro k
       rw[←H.out.2.2.2 k,HZ.out.1,←of_same_mid HX.out k];simp
  · have hlez:¬((a+20:Nat):Int)≤(n:Int):=by omega
    have hc:=insertion_any blk off n cap w0 wr R C.flatten Z [] (by have h:=S1.out;simpa using h) (by have h:=H.out.2.2.1;simpa using h) a n H.out.2.1.symm (by have h:=H.out.2.2.1;rw[List.length_append]at h;omega);clear S1;go_wp2_with (go_at_call 180;refine hc.mono ?_;rintro e w2 ⟨rfl,X,hX,S2⟩);have S3:Aside (SWK encP 2 w0 blk off (C.flatten++X).toArray w2):=aside (by have h:=S2;simpa using h);have H2:Hid (Blk 20 C X∧(C.flatten++X).length=n∧∀k,Pm.of k (C.flatten++X)=Pm.of k l0):=by
     have h1:=H.out;have h2:=hX.len;have h3:=h1.2.2.1;rw[List.length_append]at h3;refine⟨⟨h1.1,hX.1,by omega⟩,by rw[List.length_append];omega,fun k=>?_⟩;rw[←h1.2.2.2 k,of_append,of_append,hX.2]
    clear hX S2 H hc
    go_loopg [6,7,8,9] n (fun g s6 _ _ _ wr=>∃(s:Nat) (C:List (List Pr)) (Z:List Pr),s6 = .int .i64 s∧0<s∧s≤n+n+20∧n-s≤g∧Aside (SWK encP 2 w0 blk off (C.flatten++Z).toArray wr)∧Hid (Blk s C Z∧(C.flatten++Z).length=n∧∀k,Pm.of k (C.flatten++Z)=Pm.of k l0))
    case atStart=>exact⟨20,C,X,rfl,by omega,by omega,by omega,S3,H2.out⟩
    case round=>
     clear S3 H2;obtain⟨s,C,Z,rfl,hs0,hsn,hg2,S1,H⟩:=hrel;by_cases hlt:s<n
     · have hltz:(s:Int)<(n:Int):=by omega
       obtain⟨t,ht⟩:∃t,t=2*s:=⟨_,rfl⟩;(have e2s:2*(s:Int)=(t:Int):=by omega);(have es2:(s:Int)*2=(t:Int):=by omega);(have HT:Hid (t=s+s):=by show _=_;omega);clear ht;(have htb:t≤n+n:=by have:=HT.out;omega);go_wp2
       go_loopg [7,8] n (fun g s7 s8 wr=>∃(a:Nat) (D E:List (List Pr)),s7 = .int .i64 a∧s8 = .int .i64 ((a+t:Nat):Int)∧a≤n∧n-a≤g∧Aside (SWK encP 2 w0 blk off (D.flatten++(E.flatten++Z)).toArray wr)∧Hid ((∀c∈D,c.length=t∧Up zAa c)∧Blk s E Z∧D.flatten.length=a∧(D.flatten++(E.flatten++Z)).length=n∧∀k,Pm.of k (D.flatten++(E.flatten++Z))=Pm.of k l0))
       case atStart=>exact⟨0,[],C,rfl,by go_num,Nat.zero_le _,by(have:=HT.out;omega),S1,(show Hid _ from⟨fun c hc=>absurd hc (List.not_mem_nil),H.out.1,rfl,H.out.2.1,H.out.2.2⟩)⟩
       case round=>
        clear S1 H;obtain⟨a,D,E,rfl,rfl,han,hg3,S1,H⟩:=hrel;obtain⟨am,has⟩:∃am,am=a+s:=⟨_,rfl⟩;(have eas:(a:Int)+(s:Int)=(am:Int):=by(have:=HT.out;omega));have HAS:Hid (am=a+s):=has;clear has;have hlen:Hid (a+(s*E.length+Z.length)=n):=by
         have h1:=H.out.2.2.2.1;rw[List.length_append,H.out.2.2.1,List.length_append,flat_len6 H.out.2.1.all]at h1;exact h1
        by_cases hle2:a+t≤n
        · have hle2z:((a+t:Nat):Int)≤(n:Int):=by(have:=HT.out;omega)
          obtain⟨c1,c2,E',hE⟩:∃c1 c2 E',E=c1::c2::E':=by
           have h1:=hlen.out;have h2:=H.out.2.1.lt
           match E,h1 with
           |[],h1=>simp at h1;(have:=HT.out;omega)
           |[c],h1=>simp at h1;(have:=HT.out;omega)
           |c1::c2::E',_=>exact⟨c1,c2,E',rfl⟩
          have HE:Hid (E=c1::c2::E'):=hE;have hc1:=H.out.2.1.all c1 (by rw[hE];simp);have hc2:=H.out.2.1.all c2 (by rw[hE];simp);have HC:Hid ((c1.length=s∧Up zAa c1)∧(c2.length=s∧Up zAa c2)):=⟨hc1,hc2⟩;have hc:=symMerge_any blk off n cap w0 R (c1.length+c2.length) wr D.flatten c1 c2 (E'.flatten++Z) (by have h:=S1.out;rw[hE]at h;simpa using h) (by have h:=H.out.2.2.2.1;rw[hE]at h;simpa using h) hc1.2 hc2.2 (by(have:=HT.out;omega)) (by(have:=HT.out;omega)) (Nat.le_refl _) a am (a+t) H.out.2.2.1.symm (by have:=HAS.out;(have:=HT.out;omega)) (by have:=HAS.out;(have:=HT.out;omega));(have eb:((a+t:Nat):Int)+((t:Nat):Int)=((a+t+t:Nat):Int):=by(have:=HT.out;omega));clear hE hc1 hc2 S1;go_wp2_with (go_at_call 181;refine hc.mono ?_;rintro e w2 ⟨rfl,X,hX,S2⟩);have HX:Hid (Stably zAa (c1++c2) X):=hX;have S3:Aside (SWK encP 2 w0 blk off ((D++[X]).flatten++(E'.flatten++Z)).toArray w2):=aside (by have h:=S2;simpa using h);clear hX S2;go_roundg (n-(a+t));case measure=>(have:=HT.out;omega)
          case rel=>
           refine⟨a+t,D++[X],E',by first|rfl|go_num,by first|rfl|go_num|rw[←eb],hle2,Nat.le_refl _,S3,?_,?_,?_,?_,?_⟩
           · intro c hcm
             rcases List.mem_append.1 hcm with h|h
             · exact H.out.1 c h
             · rw[List.mem_singleton.1 h]
               have h1:=HX.out.len;have h2:=HC.out;rw[List.length_append]at h1;exact⟨by(have:=HT.out;omega),HX.out.1⟩
           · exact⟨fun c hc=>H.out.2.1.all c (by rw[HE.out];simp[hc]),H.out.2.1.up,H.out.2.1.lt⟩
           · have h1:=H.out.2.2.1
             have h2:=HX.out.len;have h3:=HC.out;simp at h1 h2 ⊢
             (have:=HT.out;omega)
           · have h1:=H.out.2.2.2.1
             have h2:=HX.out.len;rw[HE.out]at h1;simp at h1 h2 ⊢
             (have:=HT.out;omega)
           · intro k
             have h3:=of_same_mid (A:=D.flatten) (B:=E'.flatten++Z) HX.out k;rw[←H.out.2.2.2.2 k,HE.out];simp only[List.flatten_append,List.flatten_cons,List.flatten_nil,List.append_nil,List.append_assoc]at h3 ⊢;exact h3
        · have hle2z:¬((a+t:Nat):Int)≤(n:Int):=by(have:=HT.out;omega)
          by_cases hmn:a+s<n
          · have hmnz:(am:Int)<(n:Int):=by have:=HAS.out;(have:=HT.out;omega)
            obtain⟨c,hE⟩:∃c,E=[c]:=by
             have h1:=hlen.out;have h2:=H.out.2.1.lt
             match E,h1 with
             |[],h1=>simp at h1;(have:=HT.out;omega)
             |[c],h1=>exact⟨c,rfl⟩
             |c1::c2::E',h1=>
              exfalso;rw[List.length_cons,List.length_cons]at h1;have:s*(E'.length+1+1)=s*E'.length+s+s:=by rw[Nat.mul_add,Nat.mul_add];(have:=HT.out;omega)
              (have:=HT.out;omega)
            have HE:Hid (E=[c]):=hE;have hcc:=H.out.2.1.all c (by rw[hE];simp);have HC:Hid (c.length=s∧Up zAa c):=hcc;have hl:=hlen.out;rw[hE]at hl;simp at hl;have hc:=symMerge_any blk off n cap w0 R (c.length+Z.length) wr D.flatten c Z [] (by have h:=S1.out;rw[hE]at h;simpa using h) (by have h:=H.out.2.2.2.1;rw[hE]at h;simpa using h) hcc.2 H.out.2.1.up (by(have:=HT.out;omega)) (by(have:=HT.out;omega)) (Nat.le_refl _) a am n H.out.2.2.1.symm (by have:=HAS.out;(have:=HT.out;omega)) (by have:=HAS.out;(have:=HT.out;omega));clear hE hcc S1 hl;go_wp2_with (go_at_call 181;refine hc.mono ?_;rintro e w2 ⟨rfl,X,hX,S2⟩);have HX:Hid (Stably zAa (c++Z) X):=hX;have S3:Aside (SWK encP 2 w0 blk off (D.flatten++X).toArray w2):=aside (by have h:=S2;simpa using h);clear hX S2;go_roundg (n-t);case measure=>(have:=HT.out;omega)
            case rel=>
             refine⟨t,D,X,by first|rfl|go_num|rw[←es2],by(have:=HT.out;omega),by(have:=HT.out;omega),Nat.le_refl _,S3,⟨H.out.1,HX.out.1,?_⟩,?_,?_⟩
             · have h1:=HX.out.len
               have h2:=HC.out.1;have h3:=H.out.2.1.lt;rw[List.length_append]at h1
               (have:=HT.out;omega)
             · have h1:=H.out.2.2.2.1
               have h2:=HX.out.len;rw[HE.out]at h1;simp at h1 h2 ⊢
               (have:=HT.out;omega)
             · intro k
               rw[←H.out.2.2.2.2 k,HE.out,of_append,HX.out.2,←of_append];simp
          · have hmnz:¬(am:Int)<(n:Int):=by have:=HAS.out;(have:=HT.out;omega)
            have HU:Hid (Up zAa (E.flatten++Z)):=by
             refine blk_done (n:=n-a) H.out.2.1 hs0 ?_ (by(have:=HT.out;omega));have h1:=H.out.2.2.2.1;rw[List.length_append,H.out.2.2.1]at h1
             (have:=HT.out;omega)
            go_wp2;go_roundg (n-t);case measure=>(have:=HT.out;omega)
            case rel=>
             refine⟨t,D,E.flatten++Z,by first|rfl|go_num|rw[←es2],by(have:=HT.out;omega),by(have:=HT.out;omega),Nat.le_refl _,S1,⟨H.out.1,HU.out,?_⟩,H.out.2.2.2.1,H.out.2.2.2.2⟩;have h1:=H.out.2.2.2.1;rw[List.length_append,H.out.2.2.1]at h1
             (have:=HT.out;omega)
     · have hltz:¬(s:Int)<(n:Int):=by omega
       go_wp2
       go_end0
       exact⟨rfl,_,⟨blk_done H.out.1 hs0 H.out.2.1 (by omega),H.out.2.2⟩,S1.out⟩
theorem sortStable_any(blk off n cap:Nat)(w0 w:World)(R:RowP w0 blk off n)(hn50:n<1125899906842624)(l0:List Pr)(S:SWK encP 2 w0 blk off l0.toArray w)(hn:l0.length=n):
 Calls Tryz.prog 135 #[.slice (some ⟨blk,off,none⟩) n cap,.func (.func 136) #[] #[]] w fun e w'=>e = .returned (.tuple #[])∧∃l',Stably zAa l0 l'∧SWK encP 2 w0 blk off l'.toArray w':=by
 have hc:=stable_any blk off n cap w0 w R hn50 l0 S hn;clear S;go_enter Tryz.func135,Tryz.ntmps135;go_wp2_with (go_at_call 165;refine hc.mono ?_;rintro e w2 ⟨rfl,l',h1,h2⟩)
 go_end0
 exact⟨rfl,l',h1,h2⟩
theorem belowN{B:Nat}{a w:World}(h:Below B a w)(n:Nat):Below B a (w.drewN n):=⟨h.os,h.tape,h.output,h.size,h.block⟩
def zB4(l:List Pr):List Value:=l.flatMap encP
theorem zB9:∀l:List Pr,(zB4 l).length=l.length*2
 |[]=>rfl
 |x::r=>by rw[zB4,List.flatMap_cons,List.length_append,←zB4,zB9 r,encP_k,List.length_cons];omega
theorem zFz(a b:List Pr):zB4 (a++b)=zB4 a++zB4 b:=List.flatMap_append ..
theorem zO5(l:List Pr)(x:Pr):zB4 (l++[x])=zB4 l++encP x:=by rw[zFz];simp[zB4]
theorem zEt:∀(l:List Pr) (i j:Nat) (x:Pr),l[i]?=some x→j<2→(zB4 l)[i*2+j]?=(encP x)[j]?
 |y::r,0,j,x,h,hj=>by
  simp only[List.getElem?_cons_zero,Option.some.injEq]at h;subst h;rw[zB4,List.flatMap_cons,List.getElem?_append_left (by rw[encP_k];omega)];simp
 |y::r,i+1,j,x,h,hj=>by
  have ih:=zEt r i j x (by simpa using h) hj;rw[zB4,List.flatMap_cons,List.getElem?_append_right (by rw[encP_k];omega),encP_k];rw[show(i+1)*2+j-2=i*2+j by omega];exact ih
theorem zSx(l:List Pr):∀v∈zB4 l,v.oneCell'=true:=by
 intro v hv;obtain⟨x,_,hx⟩:=List.mem_flatMap.1 hv;exact encP_one x v hx
structure TwoAt(w:World)(g o:Nat)(x:Pr):Prop where
 c0:w.cell? ⟨g,o,none⟩=some (.string x.1)
 c1:w.cell? ⟨g,o+1,none⟩=some (.int .i64 x.2)
theorem TwoAt.below{w w':World}{g o:Nat}{x:Pr}(h:TwoAt w g o x){B:Nat}(hg:g<B)(hb:Below B w w'):TwoAt w' g o x:=
 ⟨(hb.cell (p:=⟨g,o,none⟩) hg).trans h.c0,(hb.cell (p:=⟨g,o+1,none⟩) hg).trans h.c1⟩
theorem TwoAt.lt{w:World}{g o:Nat}{x:Pr}(h:TwoAt w g o x):g<w.heap.size:=zAp h.c0
theorem TwoAt.load{w:World}{g o:Nat}{x:Pr}(h:TwoAt w g o x):loadP Tryz.prog (.pointer (some ⟨g,o,none⟩)) w = .ok (valP x) w:=loadP_at h.c0 h.c1
def PRow(w:World)(v:Value)(l:List Pr):Prop:=
 ∃ad cap,v = .slice ad l.length cap∧(0<l.length→∃g off,ad=some ⟨g,off,none⟩∧g<w.heap.size∧∀i x,l[i]?=some x→TwoAt w g (off+i*2) x)
theorem PRow.at{w:World}{ad:Option Addr}{n cap:Nat}{l:List Pr}(h:PRow w (.slice ad n cap) l)(h0:0<n):∃g off,ad=some ⟨g,off,none⟩∧g<w.heap.size∧∀i x,l[i]?=some x→TwoAt w g (off+i*2) x:=by
 obtain⟨ad',cap',e,hc⟩:=h;simp only[Value.slice.injEq]at e;obtain⟨rfl,h2,rfl⟩:=e;exact hc (by omega)
theorem PRow.nil(w:World):PRow w (.slice none 0 0) []:=⟨none,0,rfl,fun h=>by simp at h⟩
theorem PRow.below{w w':World}{v:Value}{l:List Pr}(h:PRow w v l)(hb:Below w.heap.size w w'):PRow w' v l:=by
 obtain⟨ad,cap,rfl,hc⟩:=h;refine⟨ad,cap,rfl,fun h0=>?_⟩;obtain⟨g,off,rfl,hg,hx⟩:=hc h0;exact⟨g,off,rfl,Nat.lt_of_lt_of_le hg hb.size,fun i x hi=>(hx i x hi).below hg hb⟩
def POwn(B:Nat)(w:World)(v:Value)(l:List Pr):Prop:=w.ownsRow B 64 2 v l.length (zB4 l)
theorem POwn.nil(B:Nat)(w:World):POwn B w (.slice none 0 0) []:=World.ownsRow_nil _ _ _ _
theorem POwn.below{B:Nat}{w w':World}{v:Value}{l:List Pr}(h:POwn B w v l)(hb:Below w.heap.size w w'):POwn B w' v l:=by
 obtain⟨hl,hn|⟨g,cap,cur,rfl,h1,hg,h2⟩⟩:=h
 · exact⟨hl,.inl hn⟩
 · exact⟨hl,.inr ⟨g,cap,cur,rfl,h1,(hb.block g (Array.getElem?_eq_some_iff.1 hg).1).trans hg,h2⟩⟩
theorem POwn.mono{B B':Nat}{w:World}{v:Value}{l:List Pr}(h:POwn B w v l)(hB:B'≤B):POwn B' w v l:=by
 obtain⟨hl,hn|⟨g,cap,cur,rfl,h1,h2⟩⟩:=h
 · exact⟨hl,.inl hn⟩
 · exact⟨hl,.inr ⟨g,cap,cur,rfl,by omega,h2⟩⟩
theorem POwn.shape{B:Nat}{w:World}{v:Value}{l:List Pr}(h:POwn B w v l):∃ad cap,v = .slice ad l.length cap:=by
 obtain⟨hl,⟨e,h0⟩|⟨g,cap,cur,rfl,_⟩⟩:=h
 · exact⟨none,0,by rw[e,h0]⟩
 · exact⟨_,cap,rfl⟩
theorem POwn.cells{w:World}{g:Nat}{cur:Array Value}{l:List Pr}(hh:w.heap[g]?=some (.cells cur 64 (0,0)))(h6:cur.toList.take (l.length*2)=zB4 l):∀i x,l[i]?=some x→TwoAt w g (0+i*2) x:=by
 intro i x hi;have hil:=(List.getElem?_eq_some_iff.1 hi).1;have cell:∀j,j<2→w.cell? ⟨g,i*2+j,none⟩=(encP x)[j]?:=fun j hj=>by
  have e:=zEt l i j x hi hj;rw[←h6,List.getElem?_take,if_pos (by omega)]at e;simp only[World.cell?,hh];simpa using e
 have c0:=cell 0 (by omega);have c1:=cell 1 (by omega);exact⟨by rw[Nat.zero_add];exact c0,by rw[Nat.zero_add];exact c1⟩
theorem POwn.row{B:Nat}{w:World}{v:Value}{l:List Pr}(h:POwn B w v l):PRow w v l:=by
 obtain⟨hl,⟨e,h0⟩|⟨g,cap,cur,rfl,h1,hh,h3,h4,h5,h6⟩⟩:=h
 · rw[List.eq_nil_of_length_eq_zero h0,e]
   exact PRow.nil w
 · exact⟨some ⟨g,0,none⟩,cap,rfl,fun _=>⟨g,0,rfl,(Array.getElem?_eq_some_iff.1 hh).1,POwn.cells hh h6⟩⟩
theorem POwn.of_cells{B:Nat}{w:World}{g cap:Nat}{cur:Array Value}{l:List Pr}(hB:B≤g)(hh:w.heap[g]?=some (.cells cur 64 (0,0)))(h3:l.length≤cap)(h4:cap≤maxLen)(h5:cur.size=cap*2)(hc:∀i x,l[i]?=some x→TwoAt w g (i*2) x):
 POwn B w (.slice (some ⟨g,0,none⟩) l.length cap) l:=by
 refine⟨zB9 l,.inr ⟨g,cap,cur,rfl,hB,hh,h3,h4,h5,?_⟩⟩;refine List.ext_getElem (by rw[List.length_take,zB9];simp;omega) fun t p q=>?_
 rw[zB9]at q;obtain⟨i,j,rfl,hj⟩:∃i j,t=i*2+j∧j<2:=⟨t/2,t%2,by omega,by omega⟩;have hi:i<l.length:=by omega
 have hx:l[i]?=some l[i]:=List.getElem?_eq_getElem hi;have e1:=zEt l i j l[i] hx hj;have e2:=hc i l[i] hx;have e3:(cur.toList)[i*2+j]?=(encP l[i])[j]?:=by
  rcases(by omega:j=0∨j=1)with rfl|rfl
  · have:=e2.c0
    simp only[World.cell?,hh]at this;simpa[encP]using this
  · have:=e2.c1
    simp only[World.cell?,hh]at this;simpa[encP]using this
 have e4:(cur.toList.take (l.length*2))[i*2+j]?=(zB4 l)[i*2+j]?:=by
  rw[List.getElem?_take,if_pos (by omega),e3,e1]
 rw[List.getElem?_eq_getElem p,List.getElem?_eq_getElem (by rw[zB9];exact q)]at e4;exact Option.some.inj e4
theorem zVz:(Tryz.prog.info? 64).map (fun i=>(i.zero,i.size,i.bytes))=some (some (.agg #[.string ByteArray.empty,.int .i64 0]),2,24):=by kernel_rfl
theorem ownBelow{B:Nat}{w w':World}{v:Value}{l:List Pr}(h:POwn B w v l)(hg:w.grownBy w' v.ownBlock)(hB:B≤w.heap.size):Below B w w':=
 (Below.refl B w).grown hg hB (fun k hk=>(World.ownsRow.lt h k hk).1)
theorem zS4{w:World}{B:Nat}{v s:Value}{l m:List Pr}(hown:POwn B w v l)(hr:PRow w s m)(hB:B≤w.heap.size)(h63:l.length+m.length≤2199023255552)(ty:TypeId):
 ∃v' w',(Builtin.append_ #[22,22] ty #[v,s]).run Tryz.prog w = .ok v' w'∧POwn B w' v' (l++m)∧w.grownBy w' v.ownBlock:=by
 obtain⟨i0,hi,hz0,hz1,hz2⟩:=info_parts zVz;obtain⟨ad,cap,rfl,hc⟩:=hr;rcases Nat.eq_zero_or_pos m.length with h0|h0
 · have hm:m=[]:=List.eq_nil_of_length_eq_zero h0
   subst hm;refine⟨v,w,?_,by simpa using hown,⟨rfl,rfl,rfl,Nat.le_refl _,fun _ _ _=>rfl⟩⟩;obtain⟨_,h2⟩:=hown;rcases h2 with⟨rfl,h0⟩|⟨g,cap,cur,rfl,hb,hh,h3,h4,h5,h6⟩
   · cases ad<;>go_simp
   · cases ad<;>go_simp
 · obtain⟨g,off,rfl,hg,hx⟩:=hc h0
   obtain⟨v',w',h1,h2,h3,_⟩:=run_append_own (P:=Tryz.prog) w B 22 ty 64 i0 _ 2 24 Tryz.underlying22 hi hz0 hz1 hz2 rfl (by decide) v l.length _ hown ⟨g,off,none⟩ m.length cap (zB4 m) (zB9 m) (fun j u hj=>by
    have hjl:=(List.getElem?_eq_some_iff.1 hj).1;rw[zB9]at hjl;obtain⟨i,r,rfl,hr⟩:∃i r,j=i*2+r∧r<2:=⟨j/2,j%2,by omega,by omega⟩;(have hi:i<m.length:=by omega);have e2:=hx i m[i] (List.getElem?_eq_getElem hi);rw[zEt m i r m[i] (List.getElem?_eq_getElem hi) hr]at hj;(have hadd:∀j,(⟨g,off,none⟩:Addr).add j=⟨g,off+j,none⟩:=fun j=>by unfold Addr.add;split<;>simp_all);rw[hadd,←Nat.add_assoc];rcases(by omega:r=0∨r=1)with rfl|rfl
    · simp only[encP,List.getElem?_cons_zero,Option.some.injEq]at hj
      rw[←hj];exact e2.c0
    · simp only[encP,List.getElem?_cons_succ,List.getElem?_cons_zero,Option.some.injEq]at hj
      rw[←hj];exact e2.c1) (zSx m) (by simp only[maxLen];omega) (by omega) hB
   refine⟨v',w',h1,?_,h3⟩;unfold POwn;rw[List.length_append,zFz];exact h2
theorem PRow.one{w:World}{g:Nat}{x:Pr}{c:Nat}(h:TwoAt w g 0 x):PRow w (.slice (some ⟨g,0,none⟩) 1 c) [x]:=
 ⟨_,c,rfl,fun _=>⟨g,0,rfl,h.lt,fun i y hi=>by
  cases i with
  |zero=>simp only[List.getElem?_cons_zero,Option.some.injEq]at hi;subst hi;simpa using h
  |succ i=>simp at hi⟩⟩
theorem zF2{w:World}{ops:Array Oper}{rest:List Oper}{o:Oper}{a:Act}{Q:Exit→Act→World→Prop}(hgd:o.guard=none)(s x:Operand)
 (ho:o.op = .call { callee := .builtin .append,args:=#[s,x],argTypes:=#[22,22] }) (B:Nat) (v u:Value) (l m:List Pr) (hs:a.eval s=v) (hown:POwn B w v l) (hx:a.eval x=u) (hr:PRow w u m) (h63:l.length+m.length≤2199023255552) (hB:B≤w.heap.size)
 (h:∀v' w',POwn B w' v' (l++m)→Below B w w'→w.grownBy w' v.ownBlock→wpList Tryz.prog ops Q rest (a.put o.dst v') w'):wpList Tryz.prog ops Q (o::rest) a w:=by
 obtain⟨v',w',h1,h2,h3⟩:=zS4 hown hr hB h63 o.type;refine wpList_plain hgd fun _ hK=>?_
 unfold Oper.wp execOp;simp only[ho,resolve,invoke,builtin,Sem.run_bind,Sem.run_pure,Result.andThen_ok,List.map_toArray,List.map_cons,List.map_nil,hs,hx,h1];exact hK _ _ (h v' w' h2 (ownBelow hown h3 hB) h3)
theorem TwoAt.new(W:World)(x:Pr)(T:TypeId):TwoAt (W.alloc (.cells #[.string x.1,.int .i64 x.2] T)) W.heap.size 0 x:=⟨by simp,by simp⟩
theorem zRe{W:World}{ops:Array Oper}{rest:List Oper}{o:Oper}{a:Act}{Q:Exit→Act→World→Prop}(hgd:o.guard=none)(s y:Operand)(x:Pr)(T:TypeId)
 (ho:o.op = .call { callee := .builtin .append,args:=#[s,y],argTypes:=#[22,22] }) (B nb c:Nat) (v:Value) (l:List Pr) (hs:a.eval s=v) (hown:POwn B W v l) (hx:a.eval y = .slice (some ⟨nb,0,none⟩) 1 c) (hnb:nb=W.heap.size) (h63:l.length<2199023255552) (hB:B≤W.heap.size)
 (h:∀v' w',POwn B w' v' (l++[x])→Below B W w'→wpList Tryz.prog ops Q rest (a.put o.dst v') w'):wpList Tryz.prog ops Q (o::rest) a (W.alloc (.cells #[.string x.1,.int .i64 x.2] T)):=by
 subst hnb;refine zF2 hgd s y ho B v _ l [x] hs (hown.below ((Below.refl _ W).alloc (Nat.le_refl _) _)) hx (PRow.one (TwoAt.new W x T)) (by simp;omega) (by simp;omega) fun v' w' h1 h2 _=>h v' w' h1 (((Below.refl B W).alloc hB _).trans h2)
theorem zAb(w:World)(o:Obj):(w.alloc o).heap[w.heap.size]?=some o:=(MapKept.heap_alloc w o).1
theorem zJ8{w:World}{blk off q:Nat}{d:Array Pr}{os:Array Obj}{k:Nat}(hk:k<w.heap.size)(hne:k≠blk):(sortWorldK encP 2 w blk off q d os).heap[k]?=w.heap[k]?:=by
 unfold sortWorldK grow putRowK putRow mapBlock;simp only;rw[Array.getElem?_append_left (by simpa[Sort.ahead]using hk),Array.getElem?_modify,if_neg (fun e=>hne e.symm)];rfl
theorem zL5{w:World}{blk off q:Nat}{d:Array Pr}{os:Array Obj}{cur:Array Value}{T:TypeId}(h:w.heap[blk]?=some (.cells cur T (0,0))):∃cur',cur'.size=cur.size∧(sortWorldK encP 2 w blk off q d os).heap[blk]?=some (.cells cur' T (0,0)):=by
 have hk:=(Array.getElem?_eq_some_iff.1 h).1;unfold sortWorldK grow putRowK putRow mapBlock;simp only;rw[Array.getElem?_append_left (by simpa[Sort.ahead]using hk),Array.getElem?_modify,if_pos rfl];show ∃cur',_∧Option.map _ w.heap[blk]?=_;rw[h];exact⟨_,by simp[putCells],rfl⟩
theorem SWK.below{w w':World}{blk off:Nat}{d:Array Pr}{B:Nat}(h:SWK encP 2 w blk off d w')(hB:B≤blk)(hBw:B≤w.heap.size):Below B w w':=by
 have hs:=h.le;obtain⟨q,os,rfl⟩:=h;exact⟨rfl,rfl,rfl,hs,fun k hk=>zJ8 (by omega) (by omega)⟩
theorem RowP.of_own{B:Nat}{w:World}{g cap:Nat}{l:List Pr}(h:POwn B w (.slice (some ⟨g,0,none⟩) l.length cap) l)(hl:l.length<1125899906842624):RowP w g 0 l.length∧SWK encP 2 w g 0 l.toArray w∧B≤g:=by
 obtain⟨_,⟨e,_⟩|⟨g',cap',cur,e,h1,hh,h3,h4,h5,h6⟩⟩:=h
 · cases e
 · simp only[Value.slice.injEq,Option.some.injEq,Addr.mk.injEq]at e
   obtain⟨⟨rfl,_⟩,_,rfl⟩:=e;have hc:=POwn.cells hh h6;have hsz:=(Array.getElem?_eq_some_iff.1 hh).1;(have fz:∀o,w.frozen? ⟨g,o,none⟩=false:=fun o=>by simp[World.frozen?,hh]);have H:HoldsK encP 2 w g 0 l.toArray:=by
    intro t ht;(have ht2:t<l.length*2:=by simpa using ht);obtain⟨i,j,rfl,hj⟩:∃i j,t=i*2+j∧j<2:=⟨t/2,t%2,by omega,by omega⟩;(have hi:i<l.length:=by omega);have e2:=hc i l[i] (List.getElem?_eq_getElem hi);refine⟨?_,fz _⟩;rw[get_flatK _ _ _ _ (by simpa using ht2),show(i*2+j)/2=i by omega,show(i*2+j)%2=j by omega];(have el:l.toArray[i]! = l[i]:=by simp[hi]);rw[el];rcases(by omega:j=0∨j=1)with rfl|rfl
    · have:=e2.c0
      rw[Nat.zero_add]at this ⊢;exact this
    · have:=e2.c1
      rw[Nat.zero_add]at this ⊢;exact this
   exact⟨⟨⟨l.toArray,by simp,⟨encP_k,encP_one,H,hsz⟩⟩,by omega⟩,SWK.start H,h1⟩
theorem POwn.sorted{B:Nat}{w w':World}{g cap:Nat}{l l':List Pr}(h:POwn B w (.slice (some ⟨g,0,none⟩) l.length cap) l)(hl:l.length<1125899906842624)(hS:SWK encP 2 w g 0 l'.toArray w')(he:l'.length=l.length):POwn B w' (.slice (some ⟨g,0,none⟩) l'.length cap) l':=by
 obtain⟨R,_,hB⟩:=RowP.of_own h hl;have H:=R.holds hS (by simpa using he);obtain⟨_,⟨e,_⟩|⟨g',cap',cur,e,h1,hh,h3,h4,h5,h6⟩⟩:=h
 · cases e
 · simp only[Value.slice.injEq,Option.some.injEq,Addr.mk.injEq]at e
   obtain⟨⟨rfl,_⟩,_,rfl⟩:=e;obtain⟨q,os,rfl⟩:=hS;obtain⟨cur',k1,k2⟩:=zL5 (off:=0) (q:=q) (d:=l'.toArray) (os:=os) hh;(refine POwn.of_cells hB k2 (by omega) h4 (by omega) fun i x hi=>?_);have hil:=(List.getElem?_eq_some_iff.1 hi).1;(have ex:l'.toArray[i]! = x:=by simp[hi]);have c0:=(cellP0 H (i:=i) (by simpa using hil)).1;have c1:=(cellP1 H (i:=i) (by simpa using hil)).1;rw[ex,Nat.zero_add]at c0 c1;exact⟨c0,c1⟩
end
section
open Go.RowKit Nums Fm
def RunesAt(E:Nat)(w:World)(v:Value)(xs:List Int):Prop:=
 ∃ad cap,v = .slice ad xs.length cap∧(0<xs.length→∃g off,ad=some ⟨g,off,none⟩∧g<E∧∀i x,xs[i]?=some x→w.cell? ⟨g,off+i,none⟩=some (.int .i32 x))
theorem RunesAt.below{E:Nat}{w w':World}{v:Value}{xs:List Int}(h:RunesAt E w v xs)(hb:Below E w w'):RunesAt E w' v xs:=by
 obtain⟨ad,cap,rfl,hc⟩:=h;refine⟨ad,cap,rfl,fun h0=>?_⟩;obtain⟨g,off,rfl,hg,hx⟩:=hc h0;exact⟨g,off,rfl,hg,fun i x hi=>(hb.cell (p:=⟨g,off+i,none⟩) hg).trans (hx i x hi)⟩
theorem RunesAt.mono{E E':Nat}{w:World}{v:Value}{xs:List Int}(h:RunesAt E w v xs)(he:E≤E'):RunesAt E' w v xs:=by
 obtain⟨ad,cap,rfl,hc⟩:=h;refine⟨ad,cap,rfl,fun h0=>?_⟩;obtain⟨g,off,rfl,hg,hx⟩:=hc h0;exact⟨g,off,rfl,by omega,hx⟩
structure EntAt(E:Nat)(w:World)(g o:Nat)(v:Value)(e:En):Prop where
 c0:w.cell? ⟨g,o,none⟩=some v
 c1:w.cell? ⟨g,o+1,none⟩=some (.int .i64 e.2)
 rn:RunesAt E w v e.1
def ERow(E:Nat)(w:World)(v:Value)(l:List En):Prop:=
 ∃ad cap,v = .slice ad l.length cap∧l.length≤cap∧(0<l.length→∃g off,ad=some ⟨g,off,none⟩∧g<E∧∀i e,l[i]?=some e→∃u,EntAt E w g (off+i*2) u e)
theorem EntAt.below{E:Nat}{w w':World}{g o:Nat}{v:Value}{e:En}(h:EntAt E w g o v e)(hg:g<E)(hb:Below E w w'):EntAt E w' g o v e:=
 ⟨(hb.cell (p:=⟨g,o,none⟩) hg).trans h.c0,(hb.cell (p:=⟨g,o+1,none⟩) hg).trans h.c1,h.rn.below hb⟩
theorem ERow.below{E:Nat}{w w':World}{v:Value}{l:List En}(h:ERow E w v l)(hb:Below E w w'):ERow E w' v l:=by
 obtain⟨ad,cap,rfl,h1,hc⟩:=h;refine⟨ad,cap,rfl,h1,fun h0=>?_⟩;obtain⟨g,off,rfl,hg,hx⟩:=hc h0;refine⟨g,off,rfl,hg,fun i e hi=>?_⟩;obtain⟨u,hu⟩:=hx i e hi;exact⟨u,hu.below hg hb⟩
theorem ERow.at{E:Nat}{w:World}{ad:Option Addr}{n cap:Nat}{l:List En}(h:ERow E w (.slice ad n cap) l)(h0:0<n):∃g off,ad=some ⟨g,off,none⟩∧g<E∧n≤cap∧∀i e,l[i]?=some e→∃u,EntAt E w g (off+i*2) u e:=by
 obtain⟨ad',cap',e,h1,hc⟩:=h;simp only[Value.slice.injEq]at e;obtain⟨rfl,h2,rfl⟩:=e;obtain⟨g,off,h3,h4,h5⟩:=hc (by omega);exact⟨g,off,h3,h4,by omega,h5⟩
theorem ERow.form{E:Nat}{w:World}{v:Value}{l:List En}(h:ERow E w v l):∃ad cap,v = .slice ad l.length cap∧l.length≤cap:=by
 obtain⟨ad,cap,e,h1,_⟩:=h;exact⟨ad,cap,e,h1⟩
theorem zH1{l:List En}{k:Nat}{e:En}(h:l[k]?=some e)(m:Int):zAs m (l.take (k+1))=if e.2<zAs m (l.take k)then e.2 else zAs m (l.take k):=by
 have key:∀(l:List En) (m:Int) (e:En),zAs m (l++[e])=if e.2<zAs m l then e.2 else zAs m l:=by
  intro l
  induction l with
  |nil=>intro m e;rfl
  |cons x r ih=>intro m e;rw[List.cons_append,zAs,ih,zAs]
 rw[List.take_add_one,h];exact key _ _ _
theorem zH0(E:Nat)(w:World)(v:Value)(l:List En)(h:ERow E w v l)(h0:0<l.length)(hE:E≤w.heap.size)(hl:l.length≤1048576):
 Calls Tryz.prog 65 #[v] w fun e w'=>e = .returned (.int .i64 (least l))∧Below w.heap.size w w':=by
 obtain⟨ad,cap,rfl,hcap⟩:=h.form;have HR:Hid (ERow E w (.slice ad l.length cap) l):=h;obtain⟨n,hn⟩:∃n,l.length=n:=⟨_,rfl⟩;have HN:Hid (l.length=n):=hn;rw[hn]at HR hl h0 hcap;have h0z:(0:Int)<(n:Int):=by omega
 obtain⟨g,off,rfl,hg,_,hx⟩:=HR.out.at h0;obtain⟨e0,he0⟩:∃e0,l[0]?=some e0:=⟨l[0]'(by have:=HN.out;omega),List.getElem?_eq_getElem _⟩;obtain⟨u0,hu0⟩:=hx 0 e0 he0;obtain⟨a0,a1,_⟩:=hu0;rw[Nat.zero_mul,Nat.add_zero]at a0 a1;have HL:Hid (least l=zAs e0.2 l):=by
  show _=_;cases l with
  |nil=>simp at he0
  |cons x r=>simp only[List.getElem?_cons_zero,Option.some.injEq]at he0;subst he0;rfl
 clear h hx he0;rw[hn];clear hn;go_enter Tryz.func65,Tryz.ntmps65;go_wp2
 go_loopg [3,5,12] n (fun g s3 _ s12 wr=>∃(k:Nat),s12 = .int .i64 k∧k≤n∧n-k≤g∧s3 = .int .i64 (zAs e0.2 (l.take k))∧Hid (Below w.heap.size w wr))
 case atStart=>exact⟨0,rfl,Nat.zero_le _,by omega,by simp[zAs],Below.refl _ _⟩
 case round=>
  obtain⟨k,rfl,hk,hgm,rfl,HB⟩:=hrel;by_cases hlt:k<n
  · have hltz:(k:Int)<(n:Int):=by omega
    obtain⟨x,hx⟩:∃x,l[k]?=some x:=⟨l[k]'(by have:=HN.out;omega),List.getElem?_eq_getElem _⟩;have HRw:ERow E wr (.slice (some ⟨g,off,none⟩) n cap) l:=HR.out.below (HB.out.mono hE);obtain⟨g',off',e',hg',_,hcell⟩:=HRw.at (by omega);simp only[Option.some.injEq,Addr.mk.injEq]at e';obtain⟨rfl,rfl,_⟩:=e';obtain⟨u,hu⟩:=hcell k x hx;obtain⟨c0,c1,⟨ra,rc,rfl,_⟩⟩:=hu;have HS:Hid (zAs e0.2 (l.take (k+1))=if x.2<zAs e0.2 (l.take k)then x.2 else zAs e0.2 (l.take k)):=zH1 hx _;(have HB2:Hid (∀o,Below w.heap.size w (wr.alloc o)):=fun o=>HB.out.alloc HB.out.size o);clear hcell hx HRw;generalize zAs e0.2 (l.take k)=m at *;go_wp2
    all_goals
     go_roundg (n-(k+1));(case measure=>omega);case rel=>exact⟨k+1,by go_num,by omega,Nat.le_refl _,by(first|(rw[HS.out,if_pos (by omega)];done)|(rw[HS.out,if_neg (by omega)];done)|(rw[HS.out];simp only[Int.min_def];split<;>split<;>first|rfl|(congr 1;omega))),HB2.out _⟩
  · have hltz:¬(k:Int)<(n:Int):=by omega
    (have HE:Hid (zAs e0.2 (l.take k)=zAs e0.2 l):=by show _=_;rw[List.take_of_length_le (by have:=HN.out;omega)]);go_wp2;go_ret;exact⟨by rw[HE.out,HL.out];rfl,HB.out⟩
theorem RunesAt.get{E:Nat}{w:World}{ad:Option Addr}{n cap:Nat}{xs:List Int}(h:RunesAt E w (.slice ad n cap) xs){k:Nat}(hk:k<xs.length):∃g off,ad=some ⟨g,off,none⟩∧n=xs.length∧w.cell? ⟨g,off+k,none⟩=some (.int .i32 ((xs.drop k).headD 0)):=by
 obtain⟨ad',cap',e,hc⟩:=h;simp only[Value.slice.injEq]at e;obtain⟨rfl,rfl,rfl⟩:=e;obtain⟨g,off,rfl,_,hx⟩:=hc (by omega);refine⟨g,off,rfl,rfl,?_⟩;have:=hx k xs[k] (List.getElem?_eq_getElem hk);rw[this,List.headD_eq_head?_getD,List.head?_drop,List.getElem?_eq_getElem hk];rfl
theorem zVg{c:Int}{k j:Nat}{l:List En}{e:En}(h:l[j]?=some e):lead c (cut k (l.drop j))=if hd (e.1.drop k,e.2)=c then lead c (cut k (l.drop (j+1)))+1 else 0:=by
 obtain⟨hj,rfl⟩:=List.getElem?_eq_some_iff.1 h;rw[List.drop_eq_getElem_cons hj,zC2,lead]
theorem zXf(E:Nat)(w:World)(v:Value)(l:List En)(k:Nat)(e0:En)(he0:l[0]?=some e0)(h:ERow E w v l)(hl:l.length≤1048576)(hlen:∀e∈l,k<e.1.length):
 Calls Tryz.prog 101 #[v,.int .i64 k] w fun e w'=>e = .returned (.int .i64 ((1+lead (hd (e0.1.drop k,e0.2)) (cut k (l.drop 1)):Nat):Int))∧∃q,w'=w.drewN q:=by
 obtain⟨ad,cap,rfl,hcap⟩:=h.form;have HR:Hid (ERow E w (.slice ad l.length cap) l):=h;obtain⟨n,hn⟩:∃n,l.length=n:=⟨_,rfl⟩;have HN:Hid (l.length=n):=hn;have HLEN:Hid (∀e∈l,k<e.1.length):=hlen;have h0:0<n:=by rw[←hn];exact(List.getElem?_eq_some_iff.1 he0).1
 rw[hn]at HR hl hcap;have h0z:(0:Int)<(n:Int):=by omega
 obtain⟨c,hc⟩:∃c,hd (e0.1.drop k,e0.2)=c:=⟨_,rfl⟩;obtain⟨A,hA⟩:∃A,1+lead c (cut k (l.drop 1))=A:=⟨_,rfl⟩;have HA:Hid (1+lead c (cut k (l.drop 1))=A):=hA;have HC:Hid (hd (e0.1.drop k,e0.2)=c):=hc;obtain⟨g,off,rfl,hg,_,hx⟩:=HR.out.at h0;obtain⟨u0,hu0⟩:=hx 0 e0 he0;obtain⟨a0,_,hr0⟩:=hu0;obtain⟨ra0,rc0,rfl,_⟩:=id hr0;have hk0:k<e0.1.length:=hlen e0 (List.mem_of_getElem? he0);obtain⟨g0,o0,rfl,_,d0⟩:=hr0.get hk0;rw[Nat.zero_mul,Nat.add_zero]at a0;obtain⟨n0,hn0⟩:∃n0,e0.1.length=n0:=⟨_,rfl⟩;rw[hn0]at a0 hk0;have hk0z:(k:Int)<(n0:Int):=by omega
 have d0':w.cell? ⟨g0,o0+k,none⟩=some (.int .i32 c):=by rw[d0,←hc];rfl
 rw[hn,hc,hA];clear h he0 hn hA hc d0 hr0 hn0 hlen;go_enter Tryz.func101,Tryz.ntmps101;go_wp2
 go_loopg [5] n (fun gm s5 wr=>∃(j:Nat),s5 = .int .i64 j∧j≤n∧1≤j∧n-j≤gm∧Hid (j+lead c (cut k (l.drop j))=A)∧Hid (∃q,wr=w.drewN q))
 case atStart=>exact⟨1,rfl,by omega,by omega,by omega,HA,0,rfl⟩
 case round=>
  obtain⟨j,rfl,hj,hj1,hgm,HJ,HW⟩:=hrel;obtain⟨q,rfl⟩:=HW.out;by_cases hlt:j<n
  · have hltz:(j:Int)<(n:Int):=by omega
    obtain⟨x,hxj⟩:∃x,l[j]?=some x:=⟨l[j]'(by have:=HN.out;omega),List.getElem?_eq_getElem _⟩;obtain⟨u,hu⟩:=hx j x hxj;obtain⟨c0,_,hr⟩:=hu;obtain⟨ra,rc,rfl,_⟩:=id hr;have hkx:k<x.1.length:=HLEN.out x (List.mem_of_getElem? hxj);obtain⟨g1,o1,rfl,_,d1⟩:=hr.get hkx;obtain⟨n1,hn1⟩:∃n1,x.1.length=n1:=⟨_,rfl⟩;rw[hn1]at c0 hkx;(have hkxz:(k:Int)<(n1:Int):=by omega);have HST:=zVg (c:=c) (k:=k) hxj;obtain⟨cx,hcx⟩:∃cx,hd (x.1.drop k,x.2)=cx:=⟨_,rfl⟩;(have d1':w.cell? ⟨g1,o1+k,none⟩=some (.int .i32 cx):=by rw[d1,←hcx];rfl);rw[hcx]at HST;clear hxj hr d1 hn1 hcx;by_cases hcc:cx=c
    · have hcb:(cx==c)=true:=beq_iff_eq.2 hcc
      (have HJ2:Hid (j+1+lead c (cut k (l.drop (j+1)))=A):=by show _=_;have:=HJ.out;rw[HST,if_pos hcc]at this;omega);clear HST hcc hx;(go_upto_region 2 with fail);go_quiet (fail);go_wp2;go_roundg (n-(j+1));(case measure=>omega);case rel=>exact⟨j+1,by go_num,by omega,by omega,Nat.le_refl _,HJ2,⟨_,rfl⟩⟩
    · have hcb:(cx==c)=false:=beq_eq_false_iff_ne.2 hcc
      (have HJ2:Hid (j=A):=by show _=_;have:=HJ.out;rw[HST,if_neg hcc]at this;omega);clear HST hcc hx;(go_upto_region 2 with fail);go_quiet (fail);go_wp2;go_ret;exact⟨by rw[HJ2.out];rfl,_,rfl⟩
  · have hltz:¬(j:Int)<(n:Int):=by omega
    have HJ2:Hid (j=A):=by
     show _=_;have:=HJ.out;rw[List.drop_eq_nil_of_le (by have:=HN.out;omega)]at this;simpa[cut,lead]using this
    clear hx;(go_upto_region 2 with fail);go_quiet (fail);go_wp2;go_ret;exact⟨by rw[HJ2.out];rfl,_,rfl⟩
end
section
open Go.RowKit Nums Fm
structure RTy(T TS:TypeId)(k bytes:Nat):Prop where
 und:Tryz.prog.underlying TS=some (.slice T)
 inf:∃z,(Tryz.prog.info? T).map (fun i=>(i.zero,i.size,i.bytes))=some (some z,k,bytes)∧z.cells.size=k
 pos:0<k
 small:bytes≤64
def zGr(k:Nat)(x:List Value):Prop:=x.length=k∧∀u∈x,u.oneCell'=true
def GOwn(T:TypeId)(k B:Nat)(w:World)(v:Value)(xss:List (List Value)):Prop:=(∀x∈xss,zGr k x)∧w.ownsRow B T k v xss.length xss.flatten
variable {T TS:TypeId} {k bytes B:Nat} {w w':World} {v:Value} {xss:List (List Value)}
theorem GOwn.nil(T:TypeId)(k B:Nat)(w:World):GOwn T k B w (.slice none 0 0) []:=⟨by simp,World.ownsRow_nil _ _ _ _⟩
theorem GOwn.shape(h:GOwn T k B w v xss):∃ad cap,v = .slice ad xss.length cap∧xss.length≤cap:=by
 obtain⟨_,hl,⟨e,h0⟩|⟨g,cap,cur,rfl,_,_,h3,_⟩⟩:=h
 · exact⟨none,0,by rw[e,h0],by omega⟩
 · exact⟨_,cap,rfl,h3⟩
theorem GOwn.mono{B':Nat}(h:GOwn T k B w v xss)(hB:B'≤B):GOwn T k B' w v xss:=by
 obtain⟨h0,hl,hn|⟨g,cap,cur,rfl,h1,h2⟩⟩:=h
 · exact⟨h0,hl,.inl hn⟩
 · exact⟨h0,hl,.inr ⟨g,cap,cur,rfl,by omega,h2⟩⟩
theorem GOwn.block(h:GOwn T k B w v xss){g:Nat}(hg:v.ownBlock=some g):B≤g∧∃cur,w.heap[g]?=some (.cells cur T (0,0)):=by
 obtain⟨_,hl,⟨e,_⟩|⟨g',cap,cur,rfl,h1,h2,_⟩⟩:=h
 · rw[e]at hg;cases hg
 · simp only[Value.ownBlock,Option.some.injEq]at hg
   subst hg;exact⟨h1,cur,h2⟩
theorem GOwn.same(h:GOwn T k B w v xss)(e:∀g,v.ownBlock=some g→w'.heap[g]?=w.heap[g]?):GOwn T k B w' v xss:=by
 obtain⟨h0,hl,hn|⟨g,cap,cur,rfl,h1,hg,h2⟩⟩:=h
 · exact⟨h0,hl,.inl hn⟩
 · exact⟨h0,hl,.inr ⟨g,cap,cur,rfl,h1,(e g rfl).trans hg,h2⟩⟩
theorem GOwn.lt(h:GOwn T k B w v xss){g:Nat}(hg:v.ownBlock=some g):g<w.heap.size:=by
 obtain⟨_,cur,h1⟩:=h.block hg;exact(Array.getElem?_eq_some_iff.1 h1).1
theorem GOwn.below(h:GOwn T k B w v xss)(hb:Below w.heap.size w w'):GOwn T k B w' v xss:=
 h.same fun g hg=>hb.block g (h.lt hg)
theorem zHb:∀(xss:List (List Value)),(∀x∈xss,x.length=k)→∀(i j:Nat) (x:List Value) (u:Value),xss[i]?=some x→x[j]?=some u→xss.flatten[i*k+j]?=some u
 |y::r,hk,0,j,x,u,hi,hj=>by
  simp only[List.getElem?_cons_zero,Option.some.injEq]at hi;subst hi;rw[List.flatten_cons,Nat.zero_mul,Nat.zero_add,List.getElem?_append_left (List.getElem?_eq_some_iff.1 hj).1];exact hj
 |y::r,hk,i+1,j,x,u,hi,hj=>by
  have hy:=hk y (by simp);rw[List.flatten_cons,List.getElem?_append_right (by rw[hy,Nat.add_mul];omega),hy,show(i+1)*k+j-k=i*k+j by rw[Nat.add_mul];omega];exact zHb r (fun x hx=>hk x (by simp[hx])) i j x u (by simpa using hi) hj
theorem GOwn.cell(h:GOwn T k B w v xss)(h0:0<xss.length):∃g cap,v = .slice (some ⟨g,0,none⟩) xss.length cap∧g<w.heap.size∧B≤g∧xss.length≤cap∧∀i j x u,xss[i]?=some x→x[j]?=some u→w.cell? ⟨g,i*k+j,none⟩=some u:=by
 have hlen:∀x∈xss,x.length=k:=fun x hx=>(h.1 x hx).1
 obtain⟨_,hl,⟨_,e⟩|⟨g,cap,cur,rfl,h1,hh,h3,h4,h5,h6⟩⟩:=h
 · omega
 · refine⟨g,cap,rfl,(Array.getElem?_eq_some_iff.1 hh).1,h1,h3,fun i j x u hi hj=>?_⟩
   have e:=zHb xss hlen i j x u hi hj;rw[←h6,List.getElem?_take]at e
   split at e
   · simp only[World.cell?,hh]
     simpa using e
   · cases e
theorem zAw(R:RTy T TS k bytes)(hown:GOwn T k B w v xss)(hB:B≤w.heap.size){x:List Value}(hx:zGr k x){nb:Nat}(hc:∀j u,x[j]?=some u→w.cell? ⟨nb,j,none⟩=some u)(h63:xss.length<1099511627776)(ty:TypeId)(c:Nat):
 ∃v' w',(Builtin.append_ #[TS,TS] ty #[v,.slice (some ⟨nb,0,none⟩) 1 c]).run Tryz.prog w = .ok v' w'∧GOwn T k B w' v' (xss++[x])∧w.grownBy w' v.ownBlock∧(v'.ownBlock=v.ownBlock∨∃g,v'.ownBlock=some g∧w.heap.size≤g):=by
 obtain⟨z,hz,hzs⟩:=R.inf;obtain⟨i0,hi,hz0,hz1,hz2⟩:=info_parts hz;obtain⟨v',w',h1,h2,h3,_⟩:=run_append_own (P:=Tryz.prog) w B TS ty T i0 z k bytes R.und hi hz0 hz1 hz2 hzs R.pos v xss.length xss.flatten hown.2 ⟨nb,0,none⟩ 1 c x (by rw[hx.1];omega) (fun j u hj=>by
  have hadd:∀j,(⟨nb,0,none⟩:Addr).add j=⟨nb,0+j,none⟩:=fun j=>by unfold Addr.add;split<;>simp_all
  rw[hadd,Nat.zero_add]
  exact hc j u hj) hx.2 (by simp only [maxLen]; omega) (by have := R.small; calc (xss.length + 1) * bytes ≤ (xss.length + 1) * 64 := Nat.mul_le_mul_left _ this
                                                                       _≤140737488355328:=by omega) hB
 have hown':GOwn T k B w' v' (xss++[x]):=by
  refine⟨fun y hy=>?_,?_⟩
  · rcases List.mem_append.1 hy with hy|hy
    · exact hown.1 y hy
    · rw[List.mem_singleton.1 hy];exact hx
  · rw[List.length_append,List.flatten_append]
    simpa using h2
 refine⟨v',w',h1,hown',h3,?_⟩;have hadd:∀j,(⟨nb,0,none⟩:Addr).add j=⟨nb,j,none⟩:=fun j=>by unfold Addr.add;split<;>simp_all
 have hnews:∀j u,x[j]?=some u→w.cell? ((⟨nb,0,none⟩:Addr).add j)=some u:=fun j u hj=>by rw[hadd];exact hc j u hj
 have hl:x.length=1*i0.size:=by rw[hx.1,hz1];omega
 have hb64:(xss.length+1)*i0.bytes≤140737488355328:=by
  rw[hz2];have:=R.small
  calc (xss.length+1)*bytes≤(xss.length+1)*64:=Nat.mul_le_mul_left _ this
   _≤140737488355328:=by omega
 obtain⟨_,hlf,⟨ev,h0⟩|⟨g,cap,cur,ev,hb',hh,hnc,hcm,hcs,htake⟩⟩:=id hown
 · subst ev
   rw[h0]at hb64;have hr:=run_append_nil (P:=Tryz.prog) w TS ty T i0 z R.und hi hz0 ⟨nb,0,none⟩ 1 c x hl hnews (by omega) (by omega) (by omega);rw[hr]at h1;(injection h1 with h1 _);exact .inr ⟨w.heap.size,by rw[←h1];rfl,Nat.le_refl _⟩
 · subst ev
   (have hcs':cur.size=cap*i0.size:=by rw[hz1];exact hcs);(have hlf':xss.flatten.length=xss.length*i0.size:=by rw[hz1];exact hlf);by_cases hroom:xss.length+1≤cap
   · have hfit:xss.length*i0.size+x.length≤cur.size:=by rw[hl,hcs',←Nat.add_mul];exact Nat.mul_le_mul_right _ hroom
     have hr:=run_append_room (P:=Tryz.prog) w TS ty T i0 R.und hi g xss.length cap cur hh ⟨nb,0,none⟩ 1 c x hl hnews hx.2 hroom hfit;rw[hr]at h1;(injection h1 with h1 _);exact .inl (by rw[←h1];rfl)
   · have holds:∀j u,xss.flatten[j]?=some u→w.cell? ((⟨g,0,none⟩:Addr).add j)=some u:=hown.2.cells (g:=g) rfl
     have hr:=run_append_grow (P:=Tryz.prog) w TS ty T i0 z R.und hi hz0 ⟨g,0,none⟩ xss.length cap xss.flatten hlf' holds ⟨nb,0,none⟩ 1 c x hl hnews (by omega) (by omega) (growslice_fits (by omega) hb64);rw[hr]at h1;(injection h1 with h1 _);exact .inr ⟨w.heap.size,by rw[←h1];rfl,Nat.le_refl _⟩
theorem zH4(h:GOwn T k B w v xss)(hg:w.grownBy w' v.ownBlock)(hB:B≤w.heap.size):Below B w w':=
 (Below.refl B w).grown hg hB (fun k hk=>(World.ownsRow.lt h.2 k hk).1)
theorem zC3{W:World}{ops:Array Oper}{rest:List Oper}{o:Oper}{a:Act}{Q:Exit→Act→World→Prop}(R:RTy T TS k bytes)(hgd:o.guard=none)(s y:Operand)(x:List Value)(T2:TypeId)
 (ho:o.op = .call { callee := .builtin .append,args:=#[s,y],argTypes:=#[TS,TS] }) (B nb c:Nat) (v:Value) (xss:List (List Value)) (hs:a.eval s=v) (hown:GOwn T k B W v xss) (hy:a.eval y = .slice (some ⟨nb,0,none⟩) 1 c) (hnb:nb=W.heap.size) (hx:zGr k x) (h63:xss.length<1099511627776) (hB:B≤W.heap.size)
 (h:∀v' w',GOwn T k B w' v' (xss++[x])→Below B W w'→(W.alloc (.cells x.toArray T2)).grownBy w' v.ownBlock→wpList Tryz.prog ops Q rest (a.put o.dst v') w'):wpList Tryz.prog ops Q (o::rest) a (W.alloc (.cells x.toArray T2)):=by
 subst hnb;have hbA:Below W.heap.size W (W.alloc (.cells x.toArray T2)):=(Below.refl _ W).alloc (Nat.le_refl _) _;obtain⟨v',w',h1,h2,h3,_⟩:=zAw R (hown.below hbA) (by simp;omega) hx (nb:=W.heap.size) (fun j u hj=>by simpa using hj) h63 o.type c;refine wpList_plain hgd fun _ hK=>?_
 unfold Oper.wp execOp;simp only[ho,resolve,invoke,builtin,Sem.run_bind,Sem.run_pure,Result.andThen_ok,List.map_toArray,List.map_cons,List.map_nil,hs,hy,h1];exact hK _ _ (h v' w' h2 (((Below.refl B W).alloc hB _).trans (zH4 (hown.below hbA) h3 (by simp;omega))) h3)
theorem rtyE:RTy 167 108 2 32:=⟨by kernel_rfl,⟨.agg #[.slice none 0 0,.int .i64 0],by kernel_rfl,rfl⟩,by decide,by decide⟩
theorem rtyA:RTy 126 89 3 24:=⟨by kernel_rfl,⟨.agg #[.int .i32 0,.int .i64 0,.int .i64 0],by kernel_rfl,rfl⟩,by decide,by decide⟩
theorem rtyS:RTy 91 37 3 40:=⟨by kernel_rfl,⟨.agg #[.bool false,.int .i64 0,.slice none 0 0],by kernel_rfl,rfl⟩,by decide,by decide⟩
end
