import Derived.Test.YtkdhdehobdfakaaGreatDoorSym3
import Derived.Shelf.Lay
import Derived.Ground.SlsfProg
set_option maxRecDepth 100000
set_option maxHeartbeats 8000000
namespace Go.Proofs.YtkdhdehobdfakaaGreatDoor
section
open Go.RowKit Go.Shelf Go.Lib Go.Sort Pm
set_option maxRecDepth 1000000
shelf_lay_g SlLaysF0.n20 Slsf 20 at Tryz 158 as insP
theorem zF2(blk off n cap:Nat)(w0 w:World)(R:RowP w0 blk off n)(A X B:List Pr)(S:SWK encP 2 w0 blk off (A++(X++B)).toArray w)(hn:(A++(X++B)).length=n)(a b:Nat)(ha:a=A.length)(hb:b=A.length+X.length):
 Calls Tryz.prog 158 #[.slice (some ⟨blk,off,none⟩) n cap,.int .i64 a,.int .i64 b,.func (.func 112) #[] #[]] w fun e w'=>e = .returned (.tuple #[])∧∃X',Stably zAa X X'∧SWK encP 2 w0 blk off (A++(X'++B)).toArray w':=by
 have eg:∀args w,(callFunc 112 args).run Tryz.prog w = .ok (.enter 112 args) w:=enters_of Tryz.func112 (by kernel_rfl) rfl;have hs:(A++(X++B)).toArray.size=n:=by simpa using hn
 obtain⟨⟨d0,e0,K⟩,hbig⟩:=R;have H:=(⟨⟨d0,e0,K⟩,hbig⟩:RowP w0 blk off n).holds S hs;have hc:=AnyQ.insertionSortCmpFunc insP 2 Tryz.isAgg75 Tryz.sizeOf75 encP encP_k encP_one cfP 112 #[] blk off cap a b (A++(X++B)).toArray w eg (byWord_lays blk off _ w) H (S.lt K.hblk) (by omega) (by simp;omega) (by rw[hs];exact hbig);rw[hs]at hc;refine hc.mono ?_;rintro e w' ⟨rfl,q,os,rfl⟩;refine⟨rfl,?_⟩;obtain⟨X',e1,e2⟩:=ins_list lessB_sto A X B;rw[cfP_ltf,ha,hb,e1];refine⟨X',e2,S.on K.hblk q _ os ?_⟩;have:=e2.len;simp;omega
structure Blk(s:Nat)(C:List (List Pr))(Z:List Pr):Prop where
 all:∀c∈C,c.length=s∧Up zAa c
 up:Up zAa Z
 lt:Z.length<s
theorem zIh{s:Nat}:∀{C:List (List Pr)},(∀c∈C,c.length=s∧Up zAa c)→C.flatten.length=s*C.length
 |[],_=>by simp
 |c::C,h=>by
  have h1:=(h c (List.mem_cons_self ..)).1;have h2:=zIh (C:=C) fun x hx=>h x (List.mem_cons_of_mem _ hx)
  rw[List.flatten_cons,List.length_append,h1,h2,List.length_cons,Nat.mul_add];omega
theorem zR3{s n:Nat}{C:List (List Pr)}{Z:List Pr}(h:Blk s C Z)(hs:0<s)(hn:(C.flatten++Z).length=n)(hns:n≤s):Up zAa (C.flatten++Z):=by
 have h1:=zIh h.all;rw[List.length_append,h1]at hn
 match C,h,hn with
 |[],h,_=>simpa using h.up
 |[c],h,hn=>
  have:Z=[]:=List.eq_nil_of_length_eq_zero (by simp at hn;omega);subst this;simpa using(h.all c (List.mem_cons_self ..)).2
 |c::d::C,h,hn=>
  exfalso;rw[List.length_cons,List.length_cons]at hn;have:s*(C.length+1+1)=s*C.length+s+s:=by rw[Nat.mul_add,Nat.mul_add];omega
  omega
theorem zH5{A X X' B:List Pr}(h:Stably zAa X X')(k:ByteArray):Pm.of k (A++(X'++B))=Pm.of k (A++(X++B)):=by
 rw[of_append,of_append,of_append,of_append,h.2]
set_option maxRecDepth 1000000
theorem zSo(blk off n cap:Nat)(w0 w:World)(R:RowP w0 blk off n)(hn50:n<1125899906842624)(l0:List Pr)(S:SWK encP 2 w0 blk off l0.toArray w)(hn:l0.length=n):
 Calls Tryz.prog 142 #[.slice (some ⟨blk,off,none⟩) n cap,.int .i64 n,.func (.func 112) #[] #[]] w fun e w'=>e = .returned (.tuple #[])∧∃l',Stably zAa l0 l'∧SWK encP 2 w0 blk off l'.toArray w':=by
 have S0:Aside (SWK encP 2 w0 blk off l0.toArray w):=S;have HN:Hid (l0.length=n):=hn;clear S hn;go_enter Tryz.func142,Tryz.ntmps142;go_wp2
 go_loopg [7,8] n (fun g s7 s8 wr=>∃(a:Nat) (C:List (List Pr)) (Z:List Pr),s7 = .int .i64 a∧s8 = .int .i64 ((a+20:Nat):Int)∧a≤n∧n-a≤g∧Aside (SWK encP 2 w0 blk off (C.flatten++Z).toArray wr)∧Hid ((∀c∈C,c.length=20∧Up zAa c)∧C.flatten.length=a∧(C.flatten++Z).length=n∧∀k,Pm.of k (C.flatten++Z)=Pm.of k l0))
 case atStart=>exact⟨0,[],l0,rfl,by go_num,Nat.zero_le _,by omega,S0,(show Hid _ from⟨fun c hc=>absurd hc (List.not_mem_nil),rfl,HN.out,fun _=>rfl⟩)⟩
 case round=>
  clear S0;obtain⟨a,C,Z,rfl,rfl,han,hg,S1,H⟩:=hrel;by_cases hle:a+20≤n
  · have hlez:((a+20:Nat):Int)≤(n:Int):=by omega
    obtain⟨Z1,Z2,hZ,hZ1⟩:=zG8 Z 20 (by have h:=H.out.2.2.1;rw[List.length_append,H.out.2.1]at h;omega);have HZ:Hid (Z=Z1++Z2∧Z1.length=20):=⟨hZ,hZ1⟩;have hc:=zF2 blk off n cap w0 wr R C.flatten Z1 Z2 (by have h:=S1.out;rw[hZ]at h;exact h) (by have h:=H.out.2.2.1;rw[hZ]at h;exact h) a (a+20) H.out.2.1.symm (by rw[H.out.2.1,hZ1]);(have eb:((a+20:Nat):Int)+20=((a+20+20:Nat):Int):=by omega);clear hZ hZ1 S1;go_wp2_with (go_at_call 158;refine hc.mono ?_;rintro e w2 ⟨rfl,X,hX,S2⟩);have HX:Hid (Stably zAa Z1 X):=hX;have S3:Aside (SWK encP 2 w0 blk off ((C++[X]).flatten++Z2).toArray w2):=zJe (by have h:=S2;simpa using h);clear hX S2;go_roundg (n-(a+20));case measure=>omega
    case rel=>
     refine⟨a+20,C++[X],Z2,by first|rfl|go_num,by first|rfl|go_num|rw[←eb],hle,Nat.le_refl _,S3,?_,?_,?_,?_⟩
     · intro c hcm
       rcases List.mem_append.1 hcm with h|h
       · exact H.out.1 c h
       · rw[List.mem_singleton.1 h]
         exact⟨by rw[HX.out.len,HZ.out.2],HX.out.1⟩
     · have h1:=H.out.2.1
       have h2:=HX.out.len;have h3:=HZ.out.2;simp at h1 ⊢;omega
     · have h1:=H.out.2.2.1
       have h2:=HX.out.len;rw[HZ.out.1]at h1;simp at h1 ⊢;omega
     · intro k
       rw[←H.out.2.2.2 k,HZ.out.1,←zH5 HX.out k];simp
  · have hlez:¬((a+20:Nat):Int)≤(n:Int):=by omega
    have hc:=zF2 blk off n cap w0 wr R C.flatten Z [] (by have h:=S1.out;simpa using h) (by have h:=H.out.2.2.1;simpa using h) a n H.out.2.1.symm (by have h:=H.out.2.2.1;rw[List.length_append]at h;omega);clear S1;go_wp2_with (go_at_call 158;refine hc.mono ?_;rintro e w2 ⟨rfl,X,hX,S2⟩);have S3:Aside (SWK encP 2 w0 blk off (C.flatten++X).toArray w2):=zJe (by have h:=S2;simpa using h);have H2:Hid (Blk 20 C X∧(C.flatten++X).length=n∧∀k,Pm.of k (C.flatten++X)=Pm.of k l0):=by
     have h1:=H.out;have h2:=hX.len;have h3:=h1.2.2.1;rw[List.length_append]at h3;refine⟨⟨h1.1,hX.1,by omega⟩,by rw[List.length_append];omega,fun k=>?_⟩;rw[←h1.2.2.2 k,of_append,of_append,hX.2]
    clear hX S2 H hc
    go_loopg [6,7,8,9] n (fun g s6 _ _ _ wr=>∃(s:Nat) (C:List (List Pr)) (Z:List Pr),s6 = .int .i64 s∧0<s∧s≤n+n+20∧n-s≤g∧Aside (SWK encP 2 w0 blk off (C.flatten++Z).toArray wr)∧Hid (Blk s C Z∧(C.flatten++Z).length=n∧∀k,Pm.of k (C.flatten++Z)=Pm.of k l0))
    case atStart=>exact⟨20,C,X,rfl,by omega,by omega,by omega,S3,H2.out⟩
    case round=>
     clear S3 H2;obtain⟨s,C,Z,rfl,hs0,hsn,hg2,S1,H⟩:=hrel;by_cases hlt:s<n
     · have hltz:(s:Int)<(n:Int):=by omega
       obtain⟨t,ht⟩:∃t,t=2*s:=⟨_,rfl⟩;(have e2s:2*(s:Int)=(t:Int):=by omega);(have es2:(s:Int)*2=(t:Int):=by omega);(have HT:Hid (t=s+s):=by show _=_;omega);clear ht;(have htb:t≤n+n:=by have:=HT.out;omega);go_wp2
       go_loopg [7,8] n (fun g s7 s8 wr=>∃(a:Nat) (D E:List (List Pr)),s7 = .int .i64 a∧s8 = .int .i64 ((a+t:Nat):Int)∧a≤n∧n-a≤g∧Aside (SWK encP 2 w0 blk off (D.flatten++(E.flatten++Z)).toArray wr)∧Hid ((∀c∈D,c.length=t∧Up zAa c)∧Blk s E Z∧D.flatten.length=a∧(D.flatten++(E.flatten++Z)).length=n∧∀k,Pm.of k (D.flatten++(E.flatten++Z))=Pm.of k l0))
       case atStart=>exact⟨0,[],C,rfl,by go_num,Nat.zero_le _,by(have:=HT.out;omega),S1,(show Hid _ from⟨fun c hc=>absurd hc (List.not_mem_nil),H.out.1,rfl,H.out.2.1,H.out.2.2⟩)⟩
       case round=>
        clear S1 H;obtain⟨a,D,E,rfl,rfl,han,hg3,S1,H⟩:=hrel;obtain⟨am,has⟩:∃am,am=a+s:=⟨_,rfl⟩;(have eas:(a:Int)+(s:Int)=(am:Int):=by(have:=HT.out;omega));have HAS:Hid (am=a+s):=has;clear has;have hlen:Hid (a+(s*E.length+Z.length)=n):=by
         have h1:=H.out.2.2.2.1;rw[List.length_append,H.out.2.2.1,List.length_append,zIh H.out.2.1.all]at h1;exact h1
        by_cases hle2:a+t≤n
        · have hle2z:((a+t:Nat):Int)≤(n:Int):=by(have:=HT.out;omega)
          obtain⟨c1,c2,E',hE⟩:∃c1 c2 E',E=c1::c2::E':=by
           have h1:=hlen.out;have h2:=H.out.2.1.lt
           match E,h1 with
           |[],h1=>simp at h1;(have:=HT.out;omega)
           |[c],h1=>simp at h1;(have:=HT.out;omega)
           |c1::c2::E',_=>exact⟨c1,c2,E',rfl⟩
          have HE:Hid (E=c1::c2::E'):=hE;have hc1:=H.out.2.1.all c1 (by rw[hE];simp);have hc2:=H.out.2.1.all c2 (by rw[hE];simp);have HC:Hid ((c1.length=s∧Up zAa c1)∧(c2.length=s∧Up zAa c2)):=⟨hc1,hc2⟩;have hc:=zG2 blk off n cap w0 R (c1.length+c2.length) wr D.flatten c1 c2 (E'.flatten++Z) (by have h:=S1.out;rw[hE]at h;simpa using h) (by have h:=H.out.2.2.2.1;rw[hE]at h;simpa using h) hc1.2 hc2.2 (by(have:=HT.out;omega)) (by(have:=HT.out;omega)) (Nat.le_refl _) a am (a+t) H.out.2.2.1.symm (by have:=HAS.out;(have:=HT.out;omega)) (by have:=HAS.out;(have:=HT.out;omega));(have eb:((a+t:Nat):Int)+((t:Nat):Int)=((a+t+t:Nat):Int):=by(have:=HT.out;omega));clear hE hc1 hc2 S1;go_wp2_with (go_at_call 159;refine hc.mono ?_;rintro e w2 ⟨rfl,X,hX,S2⟩);have HX:Hid (Stably zAa (c1++c2) X):=hX;have S3:Aside (SWK encP 2 w0 blk off ((D++[X]).flatten++(E'.flatten++Z)).toArray w2):=zJe (by have h:=S2;simpa using h);clear hX S2;go_roundg (n-(a+t));case measure=>(have:=HT.out;omega)
          case rel=>
           refine⟨a+t,D++[X],E',by first|rfl|go_num,by first|rfl|go_num|rw[←eb],hle2,Nat.le_refl _,S3,?_,?_,?_,?_,?_⟩
           · intro c hcm
             rcases List.mem_append.1 hcm with h|h
             · exact H.out.1 c h
             · rw[List.mem_singleton.1 h]
               have h1:=HX.out.len;have h2:=HC.out;rw[List.length_append]at h1;exact⟨by(have:=HT.out;omega),HX.out.1⟩
           · exact⟨fun c hc=>H.out.2.1.all c (by rw[HE.out];simp[hc]),H.out.2.1.up,H.out.2.1.lt⟩
           · have h1:=H.out.2.2.1
             have h2:=HX.out.len;have h3:=HC.out;simp at h1 h2 ⊢
             (have:=HT.out;omega)
           · have h1:=H.out.2.2.2.1
             have h2:=HX.out.len;rw[HE.out]at h1;simp at h1 h2 ⊢
             (have:=HT.out;omega)
           · intro k
             have h3:=zH5 (A:=D.flatten) (B:=E'.flatten++Z) HX.out k;rw[←H.out.2.2.2.2 k,HE.out];simp only[List.flatten_append,List.flatten_cons,List.flatten_nil,List.append_nil,List.append_assoc]at h3 ⊢;exact h3
        · have hle2z:¬((a+t:Nat):Int)≤(n:Int):=by(have:=HT.out;omega)
          by_cases hmn:a+s<n
          · have hmnz:(am:Int)<(n:Int):=by have:=HAS.out;(have:=HT.out;omega)
            obtain⟨c,hE⟩:∃c,E=[c]:=by
             have h1:=hlen.out;have h2:=H.out.2.1.lt
             match E,h1 with
             |[],h1=>simp at h1;(have:=HT.out;omega)
             |[c],h1=>exact⟨c,rfl⟩
             |c1::c2::E',h1=>
              exfalso;rw[List.length_cons,List.length_cons]at h1;have:s*(E'.length+1+1)=s*E'.length+s+s:=by rw[Nat.mul_add,Nat.mul_add];(have:=HT.out;omega)
              (have:=HT.out;omega)
            have HE:Hid (E=[c]):=hE;have hcc:=H.out.2.1.all c (by rw[hE];simp);have HC:Hid (c.length=s∧Up zAa c):=hcc;have hl:=hlen.out;rw[hE]at hl;simp at hl;have hc:=zG2 blk off n cap w0 R (c.length+Z.length) wr D.flatten c Z [] (by have h:=S1.out;rw[hE]at h;simpa using h) (by have h:=H.out.2.2.2.1;rw[hE]at h;simpa using h) hcc.2 H.out.2.1.up (by(have:=HT.out;omega)) (by(have:=HT.out;omega)) (Nat.le_refl _) a am n H.out.2.2.1.symm (by have:=HAS.out;(have:=HT.out;omega)) (by have:=HAS.out;(have:=HT.out;omega));clear hE hcc S1 hl;go_wp2_with (go_at_call 159;refine hc.mono ?_;rintro e w2 ⟨rfl,X,hX,S2⟩);have HX:Hid (Stably zAa (c++Z) X):=hX;have S3:Aside (SWK encP 2 w0 blk off (D.flatten++X).toArray w2):=zJe (by have h:=S2;simpa using h);clear hX S2;go_roundg (n-t);case measure=>(have:=HT.out;omega)
            case rel=>
             refine⟨t,D,X,by first|rfl|go_num|rw[←es2],by(have:=HT.out;omega),by(have:=HT.out;omega),Nat.le_refl _,S3,⟨H.out.1,HX.out.1,?_⟩,?_,?_⟩
             · have h1:=HX.out.len
               have h2:=HC.out.1;have h3:=H.out.2.1.lt;rw[List.length_append]at h1
               (have:=HT.out;omega)
             · have h1:=H.out.2.2.2.1
               have h2:=HX.out.len;rw[HE.out]at h1;simp at h1 h2 ⊢
               (have:=HT.out;omega)
             · intro k
               rw[←H.out.2.2.2.2 k,HE.out,of_append,HX.out.2,←of_append];simp
          · have hmnz:¬(am:Int)<(n:Int):=by have:=HAS.out;(have:=HT.out;omega)
            have HU:Hid (Up zAa (E.flatten++Z)):=by
             refine zR3 (n:=n-a) H.out.2.1 hs0 ?_ (by(have:=HT.out;omega));have h1:=H.out.2.2.2.1;rw[List.length_append,H.out.2.2.1]at h1
             (have:=HT.out;omega)
            go_wp2;go_roundg (n-t);case measure=>(have:=HT.out;omega)
            case rel=>
             refine⟨t,D,E.flatten++Z,by first|rfl|go_num|rw[←es2],by(have:=HT.out;omega),by(have:=HT.out;omega),Nat.le_refl _,S1,⟨H.out.1,HU.out,?_⟩,H.out.2.2.2.1,H.out.2.2.2.2⟩;have h1:=H.out.2.2.2.1;rw[List.length_append,H.out.2.2.1]at h1
             (have:=HT.out;omega)
     · have hltz:¬(s:Int)<(n:Int):=by omega
       go_wp2
       go_end0
       exact⟨rfl,_,⟨zR3 H.out.1 hs0 H.out.2.1 (by omega),H.out.2.2⟩,S1.out⟩
theorem zI3(blk off n cap:Nat)(w0 w:World)(R:RowP w0 blk off n)(hn50:n<1125899906842624)(l0:List Pr)(S:SWK encP 2 w0 blk off l0.toArray w)(hn:l0.length=n):
 Calls Tryz.prog 111 #[.slice (some ⟨blk,off,none⟩) n cap,.func (.func 112) #[] #[]] w fun e w'=>e = .returned (.tuple #[])∧∃l',Stably zAa l0 l'∧SWK encP 2 w0 blk off l'.toArray w':=by
 have hc:=zSo blk off n cap w0 w R hn50 l0 S hn;clear S;go_enter Tryz.func111,Tryz.ntmps111;go_wp2_with (go_at_call 142;refine hc.mono ?_;rintro e w2 ⟨rfl,l',h1,h2⟩)
 go_end0
 exact⟨rfl,l',h1,h2⟩
end
