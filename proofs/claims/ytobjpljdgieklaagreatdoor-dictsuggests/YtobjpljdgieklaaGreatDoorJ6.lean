import Derived.Test.YtobjpljdgieklaaGreatDoorJ4
set_option maxRecDepth 100000
namespace Go.Proofs.YtobjpljdgieklaaGreatDoor
section
open Go.RowKit Go.Shelf Go.Lib Go.Sort Pm
set_option maxRecDepth 1000000
set_option maxHeartbeats 4000000 in
theorem rotate_any(blk off n cap:Nat)(w0 w:World)(R:RowP w0 blk off n)(A X Y B:List Pr)(S:SWK encP 2 w0 blk off (A++(X++(Y++B))).toArray w)(hn:(A++(X++(Y++B))).length=n)(hx:0<X.length)(hy:0<Y.length)(a m b:Nat)(ha:a=A.length)(hm:m=A.length+X.length)(hb:b=A.length+X.length+Y.length):
 Calls Tryz.prog 196 #[.slice (some ⟨blk,off,none⟩) n cap,.int .i64 a,.int .i64 m,.int .i64 b,.func (.func 136) #[] #[]] w fun e w'=>e = .returned (.tuple #[])∧SWK encP 2 w0 blk off (A++(Y++(X++B))).toArray w':=by
 have hbig:=R.big;have hn':A.length+(X.length+(Y.length+B.length))=n:=by simpa using hn
 have HN:Hid (A.length+(X.length+(Y.length+B.length))=n):=hn';obtain⟨i0,hi0⟩:∃i,i=X.length:=⟨_,rfl⟩;obtain⟨j0,hj0⟩:∃i,i=Y.length:=⟨_,rfl⟩;have e1:(m:Int)-(a:Int)=(i0:Int):=by omega
 have e2:(b:Int)-(m:Int)=(j0:Int):=by omega
 have hmi:i0≤m:=by omega
 have hmj:m+j0≤n:=by omega
 have hi00:0<i0:=by omega
 have hj00:0<j0:=by omega
 have S0:Aside (SWK encP 2 w0 blk off (A++(X++(Y++B))).toArray w):=S;have HI:Hid (i0=X.length):=hi0;have HJ:Hid (j0=Y.length):=hj0;have HM:Hid (m=A.length+X.length):=hm;clear S hn hn' hx hy ha hm hb hi0 hj0;go_enter Tryz.func196,Tryz.ntmps196;go_wp2
 go_loopg [10,11] (i0+j0) (fun g s10 s11 wr=>∃(i j:Nat) (A' X' Y' B':List Pr),s10 = .int .i64 i∧s11 = .int .i64 j∧i≤m∧m+j≤n∧0<i∧0<j∧i+j≤g∧Aside (SWK encP 2 w0 blk off (A'++(X'++(Y'++B'))).toArray wr)∧Hid (i=X'.length∧j=Y'.length∧m=A'.length+X'.length∧(A'++(X'++(Y'++B'))).length=n∧A'++(Y'++(X'++B'))=A++(Y++(X++B))))
 case atStart=>exact⟨i0,j0,A,X,Y,B,rfl,rfl,hmi,hmj,hi00,hj00,Nat.le_refl _,S0,HI.out,HJ.out,HM.out,by have:=HN.out;simpa using this,rfl⟩
 case round=>
  clear S0;obtain⟨i,j,A',X',Y',B',rfl,rfl,him,hjn,hi,hj,hg,S1,H⟩:=hrel;have emi:(m:Int)-(i:Int)=((m-i:Nat):Int):=by omega
  by_cases heq:i=j
  · subst heq
    (have hc:=fun(W:World) (SW:SWK encP 2 w0 blk off (A'++(X'++(Y'++B'))).toArray W)=>swapRange_any blk off n cap w0 W R A' X' [] Y' B' SW H.out.2.2.2.1 (by have:=H.out;omega) (m-i) m i (by have:=H.out;omega) (by have:=H.out;simp;omega) H.out.1);go_wp2_with (go_at_call 202;refine(hc _ S1.out).mono ?_;rintro e w' ⟨rfl,S2⟩)
    go_end0
    exact⟨rfl,H.out.2.2.2.2▸S2⟩
  · have hne:((i:Int)==(j:Int))=false:=beq_eq_false_iff_ne.2 (by omega)
    by_cases hgt:j<i
    · have hgtz:(j:Int)<(i:Int):=by omega
      obtain⟨X1,X2,hX,hX1⟩:=zD0 X' j (by have:=H.out;omega);(have eij:(i:Int)-(j:Int)=((i-j:Nat):Int):=by omega);(have hX2:Hid (X2.length=i-j):=by show _=_;have h:=H.out.1;rw[hX]at h;simp at h;omega);have HX1:Hid (X1.length=j):=hX1;have HXX:Hid (X'=X1++X2):=hX;(have hc:=fun(W:World) (SW:SWK encP 2 w0 blk off (A'++(X1++(X2++(Y'++B')))).toArray W)=>swapRange_any blk off n cap w0 W R A' X1 X2 Y' B' SW (by have:=H.out.2.2.2.1;rw[hX]at this;simpa using this) (by have:=H.out;omega) (m-i) m j (by have:=H.out;omega) (by have:=H.out;have:=hX2.out;omega) hX1.symm);have S1':Aside (SWK encP 2 w0 blk off (A'++(X1++(X2++(Y'++B')))).toArray wr):=by
       have:=S1.out;rw[hX,List.append_assoc]at this;exact this
      clear S1 hX hX1;go_wp2_with (go_at_call 202;refine(hc _ S1'.out).mono ?_;rintro e w' ⟨rfl,S2⟩);have S2':Aside (SWK encP 2 w0 blk off ((A'++Y')++(X2++(X1++B'))).toArray w'):=by
       have:=S2;rw[show A'++(Y'++(X2++(X1++B')))=(A'++Y')++(X2++(X1++B'))by simp]at this;exact this
      clear S2;go_roundg (i-j+j);case measure=>omega
      case rel=>
       refine⟨i-j,j,A'++Y',X2,X1,B',by rw[←eij],rfl,by omega,hjn,by omega,hj,Nat.le_refl _,S2',hX2.out.symm,HX1.out.symm,?_,?_,?_⟩
       · have:=H.out;have:=hX2.out;simp;omega
       · have h1:=H.out.2.2.2.1;have h2:=H.out;have h3:=hX2.out;have h4:=HX1.out;simp at h1 ⊢;omega
       · rw[←H.out.2.2.2.2,HXX.out];simp
    · have hgtz:¬(j:Int)<(i:Int):=by omega
      (have hlt:i<j:=by omega);obtain⟨Y1,Y2,hY,hY1⟩:=zD0 Y' (j-i) (by have:=H.out;omega);(have eji:(j:Int)-(i:Int)=((j-i:Nat):Int):=by omega);(have emj:(m:Int)+(j:Int)-(i:Int)=((m+j-i:Nat):Int):=by omega);(have hY2:Hid (Y2.length=i):=by show _=_;have h:=H.out.2.1;rw[hY]at h;simp at h;omega);have HY1:Hid (Y1.length=j-i):=hY1;have HYY:Hid (Y'=Y1++Y2):=hY;(have hc:=fun(W:World) (SW:SWK encP 2 w0 blk off (A'++(X'++(Y1++(Y2++B')))).toArray W)=>swapRange_any blk off n cap w0 W R A' X' Y1 Y2 B' SW (by have:=H.out.2.2.2.1;rw[hY]at this;simpa using this) (by have:=H.out;have:=hY2.out;omega) (m-i) (m+j-i) i (by have:=H.out;omega) (by have:=H.out;omega) H.out.1);have S1':Aside (SWK encP 2 w0 blk off (A'++(X'++(Y1++(Y2++B')))).toArray wr):=by
       have:=S1.out;rw[hY,List.append_assoc Y1]at this;exact this
      clear S1 hY hY1;go_wp2_with (go_at_call 202;refine(hc _ S1'.out).mono ?_;rintro e w' ⟨rfl,S2⟩);have S2':Aside (SWK encP 2 w0 blk off (A'++(Y2++(Y1++(X'++B')))).toArray w'):=S2;clear S2;go_roundg (i+(j-i));case measure=>omega
      case rel=>
       refine⟨i,j-i,A',Y2,Y1,X'++B',rfl,by rw[←eji],him,by omega,hi,by omega,Nat.le_refl _,S2',hY2.out.symm,HY1.out.symm,?_,?_,?_⟩
       · have:=H.out;have:=hY2.out;omega
       · have h1:=H.out.2.2.2.1;have h2:=H.out;have h3:=hY2.out;have h4:=HY1.out;simp at h1 ⊢;omega
       · rw[←H.out.2.2.2.2,HYY.out];simp
end
section
open Go.RowKit Go.Shelf Go.Lib Go.Sort Pm
set_option maxRecDepth 1000000
theorem lt_of_cf{x y:Pr}(h:zAa x.1 y.1=true):cfP x y<0:=by unfold cfP;rw[if_pos h];decide
theorem not_lt_of_cf{x y:Pr}(h:zAa x.1 y.1=false):¬cfP x y<0:=by
 unfold cfP;rw[h];cases zAa y.1 x.1<;>decide
theorem all_lt{R:List Pr}{u x:Pr}(h:Up zAa (R++[u]))(hu:zAa u.1 x.1=true):∀v∈R++[u],zAa v.1 x.1=true:=fun v hv=>
 up_lt lessB_sto (L:=[]) h (List.pairwise_singleton ..) hu v hv x (List.mem_singleton.2 rfl)
theorem all_ge{R:List Pr}{u x:Pr}(h:Up zAa (u::R))(hu:zAa u.1 x.1=false):∀v∈u::R,zAa v.1 x.1=false:=fun v hv=>
 up_le lessB_sto (L:=[]) (List.pairwise_singleton ..) h hu x (by simp) v hv
theorem all_le{R:List Pr}{u y:Pr}(h:Up zAa (R++[u]))(hu:zAa y.1 u.1=false):∀v∈R++[u],zAa y.1 v.1=false:=fun v hv=>
 up_le lessB_sto (R:=[]) h (List.pairwise_singleton ..) hu v hv y (List.mem_singleton.2 rfl)
theorem all_gt{R:List Pr}{u y:Pr}(h:Up zAa (u::R))(hu:zAa y.1 u.1=true):∀v∈u::R,zAa y.1 v.1=true:=fun v hv=>
 up_lt lessB_sto (R:=[]) (List.pairwise_singleton ..) h hu y (by simp) v hv
theorem up_left{a b:List Pr}(h:Up zAa (a++b)):Up zAa a:=(List.pairwise_append.1 h).1
theorem up_right{a b:List Pr}(h:Up zAa (a++b)):Up zAa b:=(List.pairwise_append.1 h).2.1
theorem part_at(P L S:List Pr)(i:Nat)(h1:P.length≤i)(h2:i≤P.length+L.length):∃L1 L2,L=L1++L2∧P.length+L1.length=i ∧
 (0<L1.length→∃a u,L1=a++[u]∧(P++(L++S)).toArray[i-1]! = u)∧(0<L2.length→∃u b,L2=u::b∧(P++(L++S)).toArray[i]! = u):=by
 obtain⟨L1,L2,rfl,hl⟩:=zD0 L (i-P.length) (by omega);refine⟨L1,L2,rfl,by omega,fun h=>?_,fun h=>?_⟩
 · obtain⟨a,u,rfl⟩:=zHe L1 h
   exact⟨a,u,rfl,Pm.get_at _ (P++a) (L2++S) u (i-1) (by simp) (by simp at hl ⊢;omega)⟩
 · cases L2 with
   |nil=>simp at h
   |cons u b=>exact⟨u,b,rfl,Pm.get_at _ (P++L1) (b++S) u i (by simp) (by simp at hl ⊢;omega)⟩
end
section
open Go.RowKit Go.Shelf Go.Lib Go.Sort Pm
set_option maxRecDepth 1000000
attribute [local go_sem ↓] exec_load_P exec_store_P
set_option maxHeartbeats 8000000 in
theorem symMerge_one(blk off n cap:Nat)(w0 w:World)(R:RowP w0 blk off n)(A Q B:List Pr)(x:Pr)(S:SWK encP 2 w0 blk off (A++x::(Q++B)).toArray w)(hn:(A++x::(Q++B)).length=n)(hQ:Up zAa Q)(a m b:Nat)(ha:a=A.length)(hm:m=a+1)(hb:b=m+Q.length):
 Calls Tryz.prog 181 #[.slice (some ⟨blk,off,none⟩) n cap,.int .i64 a,.int .i64 m,.int .i64 b,.func (.func 136) #[] #[]] w fun e w'=>e = .returned (.tuple #[])∧∃X,Stably zAa (x::Q) X∧SWK encP 2 w0 blk off (A++(X++B)).toArray w':=by
 have hbig:=R.big;have mixed:=zAr;have eg:∀args w,(callFunc 136 args).run Tryz.prog w = .ok (.enter 136 args) w:=enters_of Tryz.func136 (by kernel_rfl) rfl;have hn':A.length+(Q.length+B.length+1)=n:=by simpa using hn
 have hbn:b≤n:=by omega
 have han:a<n:=by omega
 have hmb:m≤b:=by omega
 have ema:(m:Int)-(a:Int)=1:=by omega
 have hxa:(A++x::(Q++B)).toArray[a]! = x:=Pm.get_at _ A (Q++B) x a rfl ha;have HPT:Hid (∀i,m≤i→i≤b→∃L1 L2,Q=L1++L2∧m+L1.length=i∧(0<L1.length→∃a' u,L1=a'++[u]∧(A++x::(Q++B)).toArray[i-1]! = u)∧(0<L2.length→∃u b',L2=u::b'∧(A++x::(Q++B)).toArray[i]! = u)):=by
  show ∀i,_;intro i h1 h2;obtain⟨L1,L2,g1,g2,g3,g4⟩:=part_at (A++[x]) Q B i (by simp;omega) (by simp;omega);rw[show A++[x]++(Q++B)=A++x::(Q++B)by simp]at g3 g4;exact⟨L1,L2,g1,by simp at g2;omega,g3,g4⟩
 have S0:Aside (SWK encP 2 w0 blk off (A++x::(Q++B)).toArray w):=S;have HN:Hid ((A++x::(Q++B)).length=n):=hn;have HQ:Hid (Up zAa Q):=hQ;have HA:Hid (a=A.length):=ha;have HM:Hid (m=a+1):=hm;have HB:Hid (b=m+Q.length):=hb;have HXA:Hid ((A++x::(Q++B)).toArray[a]! = x):=hxa;have HL:Hid ((A++x::(Q++B)).toArray.size=n):=by show _=_;simpa using hn
 obtain⟨d,hd⟩:∃d:Array Pr,(A++x::(Q++B)).toArray=d:=⟨_,rfl⟩;have HD:Hid ((A++x::(Q++B)).toArray=d):=hd;rw[hd]at S0 HXA HL HPT;have hma1:m≤n:=by omega
 clear S hn hn' hQ ha hm hb hxa hd;go_enter Tryz.func181,Tryz.ntmps181;go_wp2
 go_loopg [10,11] (b-m) (fun g s10 s11 wr=>∃(i j:Nat),s10 = .int .i64 i∧s11 = .int .i64 j∧m≤i∧i≤j∧j≤b∧j-i≤g∧Aside (SWK encP 2 w0 blk off d wr)∧Hid ((i=m∨zAa d[i-1]!.1 x.1=true)∧(j=b∨zAa d[j]!.1 x.1=false)))
 case atStart=>exact⟨m,b,rfl,rfl,Nat.le_refl _,hmb,Nat.le_refl _,Nat.le_refl _,S0,.inl rfl,.inl rfl⟩
 case round=>
  clear S0;obtain⟨i,j,rfl,rfl,hmi,hij,hjb,hg,S1,H⟩:=hrel;by_cases hlt:i<j
  · have hltz:(i:Int)<(j:Int):=by omega
    obtain⟨h,hh⟩:∃h,h=(i+j)/2:=⟨_,rfl⟩;(have ehz:((i:Int)+(j:Int))/2=(h:Int):=by omega);(have hih:i≤h:=by omega);(have hhj:h<j:=by omega);have HH:Hid (h=(i+j)/2):=hh;clear hh;(have rh:IntKind.i64.wrap (h:Int)=(h:Int):=by rw[IntKind.wrap_i64];omega);(have ph:(0:Int)≤(h:Int):=by omega);(have bh:(h:Int)<(n:Int):=by omega);(have eh:(h:Int).toNat=h:=by omega);(have pa:(0:Int)≤(a:Int):=by omega);(have ba:(a:Int)<(n:Int):=by omega);(have ea:(a:Int).toNat=a:=by omega);have lh:=R.ld S1.out HL.out h (by omega);have la:=R.ld S1.out HL.out a (by omega);rw[HXA.out]at la;obtain⟨y,hy⟩:∃y,d[h]! = y:=⟨_,rfl⟩;rw[hy]at lh;have HY:Hid (d[h]! = y):=hy;clear hy;have hcm:=RowP.cmp S1.out y x;cases hv:zAa y.1 x.1
    · have hv1:¬cfP y x<0:=not_lt_of_cf hv
      have hv2:decide (cfP y x<0)=false:=decide_eq_false hv1;have HV:Hid (zAa y.1 x.1=false):=hv;clear hv;go_wp2_with fail
      go_quiet_grown (first|(go_at_fn 136;refine Calls.grown_of (hcm _ _))|(go_at_call 136;refine Calls.grown_of (hcm _ _)))
      have S2:Aside (SWK encP 2 w0 blk off d (grow (wr.drewN nq) osq)):=S1.out.grown nq osq;clear lh la hcm S1;generalize grow (wr.drewN nq) osq=w2 at S2 ⊢;go_wp2;go_roundg (h-i);(case measure=>omega);case rel=>exact⟨i,h,rfl,rfl,hmi,hih,by omega,Nat.le_refl _,S2,H.out.1,.inr (by rw[HY.out];exact HV.out)⟩
    · have hv1:cfP y x<0:=lt_of_cf hv
      have hv2:decide (cfP y x<0)=true:=decide_eq_true hv1;have HV:Hid (zAa y.1 x.1=true):=hv;clear hv;go_wp2_with fail
      go_quiet_grown (first|(go_at_fn 136;refine Calls.grown_of (hcm _ _))|(go_at_call 136;refine Calls.grown_of (hcm _ _)))
      have S2:Aside (SWK encP 2 w0 blk off d (grow (wr.drewN nq) osq)):=S1.out.grown nq osq;clear lh la hcm S1;generalize grow (wr.drewN nq) osq=w2 at S2 ⊢;go_wp2;go_roundg (j-(h+1));(case measure=>omega);case rel=>exact⟨h+1,j,by go_num,rfl,by omega,by omega,hjb,Nat.le_refl _,S2,.inr (by rw[Nat.add_sub_cancel,HY.out];exact HV.out),H.out.2⟩
  · have hltz:¬(i:Int)<(j:Int):=by omega
    (obtain rfl:i=j:=by omega);obtain⟨Q1,Q2,hq,hl1,hq1,hq2⟩:=HPT.out i hmi hjb;have HQ1:Hid (∀v∈Q1,zAa v.1 x.1=true):=by
     show ∀v∈Q1,_;rcases Nat.eq_zero_or_pos Q1.length with h0|h0
     · rw[List.eq_nil_of_length_eq_zero h0];intro v hv;cases hv
     · obtain⟨a',u,e1,e2⟩:=hq1 h0
       rcases H.out.1 with h1|h1
       · omega
       · rw[e1]
         rw[e2]at h1;have hup:=HQ.out;rw[hq,e1]at hup;exact all_lt (up_left hup) h1
    have HQ2:Hid (∀v∈Q2,zAa v.1 x.1=false):=by
     show ∀v∈Q2,_;rcases Nat.eq_zero_or_pos Q2.length with h0|h0
     · rw[List.eq_nil_of_length_eq_zero h0];intro v hv;cases hv
     · obtain⟨u,b',e1,e2⟩:=hq2 h0
       rcases H.out.2 with h1|h1
       · exfalso
         have hm2:=HB.out;rw[hq,List.length_append]at hm2;omega
       · rw[e1]
         rw[e2]at h1;have hup:=HQ.out;rw[hq,e1]at hup;exact all_ge (up_right hup) h1
    have HQQ:Hid (Q=Q1++Q2):=hq;have S1':Aside (SWK encP 2 w0 blk off (A++([]++x::(Q1++(Q2++B)))).toArray wr):=by
     have h:=S1.out;rw[←HD.out,hq,List.append_assoc Q1]at h;exact h
    have HL1:Hid (m+Q1.length=i):=hl1;(have hai:a+1≤i:=by have:=HM.out;omega);clear S1 hq hl1 hq1 hq2 H HPT HXA;go_wp2
    go_loopg [13] Q1.length (fun g s13 wr=>∃(k:Nat) (U V:List Pr),s13 = .int .i64 k∧a≤k∧k+1≤i∧i-k≤g+1∧Aside (SWK encP 2 w0 blk off (A++(U++x::(V++(Q2++B)))).toArray wr)∧Hid (Q1=U++V∧k=a+U.length))
    case atStart=>exact⟨a,[],Q1,rfl,Nat.le_refl _,hai,by have:=HL1.out;have:=HM.out;omega,S1',rfl,rfl⟩
    case round=>
     clear S1';obtain⟨k,U,V,rfl,hak,hki,hg2,S1,H2⟩:=hrel;(have ei1:(i:Int)-1=((i-1:Nat):Int):=by omega);(have hiz:IntKind.i64.wrap ((i-1:Nat):Int)=((i-1:Nat):Int):=by rw[IntKind.wrap_i64];omega);by_cases hk:k<i-1
     · have hkz:(k:Int)<((i-1:Nat):Int):=by omega
       have hVn:V≠[]:=by
        intro e;have h1:=H2.out.1;have h2:=HL1.out;have h3:=H2.out.2;have h4:=HM.out;rw[h1,e]at h2;simp at h2;omega
       obtain⟨v,V',hV⟩:∃v V',V=v::V':=by
        cases V with
        |nil=>exact absurd rfl hVn
        |cons v V'=>exact⟨v,V',rfl⟩
       have HV:Hid (V=v::V'):=hV;clear hVn hV;have hs:(A++(U++x::(V++(Q2++B)))).toArray.size=n:=by
        have h1:=HN.out;rw[HQQ.out,H2.out.1]at h1;simp at h1 ⊢;omega
       (have ek:(k:Int).toNat=k:=by omega);(have pk:(0:Int)≤(k:Int):=by omega);(have bk:(k:Int)<(n:Int):=by omega);(have rk:IntKind.i64.wrap (k:Int)=(k:Int):=by rw[IntKind.wrap_i64];omega);(have ek1:((k:Int)+1).toNat=k+1:=by omega);(have pk1:(0:Int)≤(k:Int)+1:=by omega);(have bk1:(k:Int)+1<(n:Int):=by omega);(have rk1:IntKind.i64.wrap ((k:Int)+1)=(k:Int)+1:=by rw[IntKind.wrap_i64];omega);have S2:=R.swapped S1.out hs k (k+1) (by omega) (by omega);have lk:=R.ld1 S1.out hs k (by omega);have lk1:=R.ld1 S1.out hs (k+1) (by omega);have sk:=R.st1 S1.out hs k (by omega) (A++(U++x::(V++(Q2++B)))).toArray[k+1]!;have sk1:=R.st2 S1.out hs k (k+1) (by omega) (by omega) (A++(U++x::(V++(Q2++B)))).toArray[k+1]! (A++(U++x::(V++(Q2++B)))).toArray[k]!;(have el:A++(U++x::(V++(Q2++B)))=(A++U)++x::([]++v::(V'++(Q2++B))):=by rw[HV.out];simp);have HSW:Hid (swp (A++(U++x::(V++(Q2++B)))).toArray k (k+1)=(A++((U++[v])++x::(V'++(Q2++B)))).toArray):=by
        show _=_;rw[zPz _ _ _ _ _ _ k (k+1) el (by have:=H2.out.2;have:=HA.out;simp;omega) (by have:=H2.out.2;have:=HA.out;simp;omega)];simp
       rw[HSW.out]at S2;have HS2:Aside _:=S2;clear S2 hs el;generalize (A++(U++x::(V++(Q2++B)))).toArray[k+1]! = y1 at HS2 lk1 sk sk1;generalize (A++(U++x::(V++(Q2++B)))).toArray[k]! = y0 at HS2 lk sk1;clear S1;go_wp2_with fail
       go_big_region_o
       clear lk lk1 sk sk1;generalize (wr.drew.setCells blk (off+k*2) (encP y1)).setCells blk (off+(k+1)*2) (encP y0)=w2 at HS2 ⊢;go_wp2;go_roundg (i-(k+1)-1);(case measure=>omega);case rel=>exact⟨k+1,U++[v],V',by go_num,by omega,by omega,by omega,HS2,by rw[H2.out.1,HV.out];simp,by have:=H2.out.2;simp;omega⟩
     · have hkz:¬(k:Int)<((i-1:Nat):Int):=by omega
       go_wp2
       (try simp only[Exit.inBlock,Exit.then]);refine bodyPost_ret (results_none rfl _ _ _) rfl ?_
       refine⟨rfl,Q1++x::Q2,?_,?_⟩
       · have:=insert_left lessB_sto (x:=x) (a:=Q1) (b:=Q2) (by rw[←HQQ.out];exact HQ.out) HQ1.out HQ2.out
         rw[HQQ.out];exact this
       · have h1:=H2.out.1
         have h2:=HL1.out;have h3:=H2.out.2;have h4:=HM.out;have hV:V=[]:=List.eq_nil_of_length_eq_zero (by rw[h1]at h2;simp at h2;omega);have h:=S1.out;rw[hV]at h h1;simp at h1;rw[h1];simpa using h
end
