import Derived.Test.YtkdhdehobdfakaaGreatDoorJ2
set_option maxRecDepth 100000
set_option maxHeartbeats 8000000
namespace Go.Proofs.YtkdhdehobdfakaaGreatDoor
section
open Go.RowKit Go.Shelf Go.Lib Go.Sort Pm
set_option maxRecDepth 1000000
attribute [local go_sem ↓] exec_load_P exec_store_P
theorem zMp(blk off n cap:Nat)(w0 w:World)(R:RowP w0 blk off n)(A Q B:List Pr)(x:Pr)(S:SWK encP 2 w0 blk off (A++x::(Q++B)).toArray w)(hn:(A++x::(Q++B)).length=n)(hQ:Up zAa Q)(a m b:Nat)(ha:a=A.length)(hm:m=a+1)(hb:b=m+Q.length):
 Calls Tryz.prog 159 #[.slice (some ⟨blk,off,none⟩) n cap,.int .i64 a,.int .i64 m,.int .i64 b,.func (.func 112) #[] #[]] w fun e w'=>e = .returned (.tuple #[])∧∃X,Stably zAa (x::Q) X∧SWK encP 2 w0 blk off (A++(X++B)).toArray w':=by
 have hbig:=R.big;have mixed:=zAr;have eg:∀args w,(callFunc 112 args).run Tryz.prog w = .ok (.enter 112 args) w:=enters_of Tryz.func112 (by kernel_rfl) rfl;have hn':A.length+(Q.length+B.length+1)=n:=by simpa using hn
 have hbn:b≤n:=by omega
 have han:a<n:=by omega
 have hmb:m≤b:=by omega
 have ema:(m:Int)-(a:Int)=1:=by omega
 have hxa:(A++x::(Q++B)).toArray[a]! = x:=Pm.get_at _ A (Q++B) x a rfl ha;have HPT:Hid (∀i,m≤i→i≤b→∃L1 L2,Q=L1++L2∧m+L1.length=i∧(0<L1.length→∃a' u,L1=a'++[u]∧(A++x::(Q++B)).toArray[i-1]! = u)∧(0<L2.length→∃u b',L2=u::b'∧(A++x::(Q++B)).toArray[i]! = u)):=by
  show ∀i,_;intro i h1 h2;obtain⟨L1,L2,g1,g2,g3,g4⟩:=zK5 (A++[x]) Q B i (by simp;omega) (by simp;omega);rw[show A++[x]++(Q++B)=A++x::(Q++B)by simp]at g3 g4;exact⟨L1,L2,g1,by simp at g2;omega,g3,g4⟩
 have S0:Aside (SWK encP 2 w0 blk off (A++x::(Q++B)).toArray w):=S;have HN:Hid ((A++x::(Q++B)).length=n):=hn;have HQ:Hid (Up zAa Q):=hQ;have HA:Hid (a=A.length):=ha;have HM:Hid (m=a+1):=hm;have HB:Hid (b=m+Q.length):=hb;have HXA:Hid ((A++x::(Q++B)).toArray[a]! = x):=hxa;have HL:Hid ((A++x::(Q++B)).toArray.size=n):=by show _=_;simpa using hn
 obtain⟨d,hd⟩:∃d:Array Pr,(A++x::(Q++B)).toArray=d:=⟨_,rfl⟩;have HD:Hid ((A++x::(Q++B)).toArray=d):=hd;rw[hd]at S0 HXA HL HPT;have hma1:m≤n:=by omega
 clear S hn hn' hQ ha hm hb hxa hd;go_enter Tryz.func159,Tryz.ntmps159;go_wp2
 go_loopg [10,11] (b-m) (fun g s10 s11 wr=>∃(i j:Nat),s10 = .int .i64 i∧s11 = .int .i64 j∧m≤i∧i≤j∧j≤b∧j-i≤g∧Aside (SWK encP 2 w0 blk off d wr)∧Hid ((i=m∨zAa d[i-1]!.1 x.1=true)∧(j=b∨zAa d[j]!.1 x.1=false)))
 case atStart=>exact⟨m,b,rfl,rfl,Nat.le_refl _,hmb,Nat.le_refl _,Nat.le_refl _,S0,.inl rfl,.inl rfl⟩
 case round=>
  clear S0;obtain⟨i,j,rfl,rfl,hmi,hij,hjb,hg,S1,H⟩:=hrel;by_cases hlt:i<j
  · have hltz:(i:Int)<(j:Int):=by omega
    obtain⟨h,hh⟩:∃h,h=(i+j)/2:=⟨_,rfl⟩;(have ehz:((i:Int)+(j:Int))/2=(h:Int):=by omega);(have hih:i≤h:=by omega);(have hhj:h<j:=by omega);have HH:Hid (h=(i+j)/2):=hh;clear hh;(have rh:IntKind.i64.wrap (h:Int)=(h:Int):=by rw[IntKind.wrap_i64];omega);(have ph:(0:Int)≤(h:Int):=by omega);(have bh:(h:Int)<(n:Int):=by omega);(have eh:(h:Int).toNat=h:=by omega);(have pa:(0:Int)≤(a:Int):=by omega);(have ba:(a:Int)<(n:Int):=by omega);(have ea:(a:Int).toNat=a:=by omega);have lh:=R.ld S1.out HL.out h (by omega);have la:=R.ld S1.out HL.out a (by omega);rw[HXA.out]at la;obtain⟨y,hy⟩:∃y,d[h]! = y:=⟨_,rfl⟩;rw[hy]at lh;have HY:Hid (d[h]! = y):=hy;clear hy;have hcm:=RowP.cmp S1.out y x;cases hv:zAa y.1 x.1
    · have hv1:¬cfP y x<0:=zD9 hv
      have hv2:decide (cfP y x<0)=false:=decide_eq_false hv1;have HV:Hid (zAa y.1 x.1=false):=hv;clear hv;go_wp2_with fail
      go_quiet_grown (first|(go_at_fn 112;refine Calls.grown_of (hcm _ _))|(go_at_call 112;refine Calls.grown_of (hcm _ _)))
      have S2:Aside (SWK encP 2 w0 blk off d (grow (wr.drewN nq) osq)):=S1.out.grown nq osq;clear lh la hcm S1;generalize grow (wr.drewN nq) osq=w2 at S2 ⊢;go_wp2;go_roundg (h-i);(case measure=>omega);case rel=>exact⟨i,h,rfl,rfl,hmi,hih,by omega,Nat.le_refl _,S2,H.out.1,.inr (by rw[HY.out];exact HV.out)⟩
    · have hv1:cfP y x<0:=zLe hv
      have hv2:decide (cfP y x<0)=true:=decide_eq_true hv1;have HV:Hid (zAa y.1 x.1=true):=hv;clear hv;go_wp2_with fail
      go_quiet_grown (first|(go_at_fn 112;refine Calls.grown_of (hcm _ _))|(go_at_call 112;refine Calls.grown_of (hcm _ _)))
      have S2:Aside (SWK encP 2 w0 blk off d (grow (wr.drewN nq) osq)):=S1.out.grown nq osq;clear lh la hcm S1;generalize grow (wr.drewN nq) osq=w2 at S2 ⊢;go_wp2;go_roundg (j-(h+1));(case measure=>omega);case rel=>exact⟨h+1,j,by go_num,rfl,by omega,by omega,hjb,Nat.le_refl _,S2,.inr (by rw[Nat.add_sub_cancel,HY.out];exact HV.out),H.out.2⟩
  · have hltz:¬(i:Int)<(j:Int):=by omega
    (obtain rfl:i=j:=by omega);obtain⟨Q1,Q2,hq,hl1,hq1,hq2⟩:=HPT.out i hmi hjb;have HQ1:Hid (∀v∈Q1,zAa v.1 x.1=true):=by
     show ∀v∈Q1,_;rcases Nat.eq_zero_or_pos Q1.length with h0|h0
     · rw[List.eq_nil_of_length_eq_zero h0];intro v hv;cases hv
     · obtain⟨a',u,e1,e2⟩:=hq1 h0
       rcases H.out.1 with h1|h1
       · omega
       · rw[e1]
         rw[e2]at h1;have hup:=HQ.out;rw[hq,e1]at hup;exact all_lt (zD0 hup) h1
    have HQ2:Hid (∀v∈Q2,zAa v.1 x.1=false):=by
     show ∀v∈Q2,_;rcases Nat.eq_zero_or_pos Q2.length with h0|h0
     · rw[List.eq_nil_of_length_eq_zero h0];intro v hv;cases hv
     · obtain⟨u,b',e1,e2⟩:=hq2 h0
       rcases H.out.2 with h1|h1
       · exfalso
         have hm2:=HB.out;rw[hq,List.length_append]at hm2;omega
       · rw[e1]
         rw[e2]at h1;have hup:=HQ.out;rw[hq,e1]at hup;exact all_ge (zB9 hup) h1
    have HQQ:Hid (Q=Q1++Q2):=hq;have S1':Aside (SWK encP 2 w0 blk off (A++([]++x::(Q1++(Q2++B)))).toArray wr):=by
     have h:=S1.out;rw[←HD.out,hq,List.append_assoc Q1]at h;exact h
    have HL1:Hid (m+Q1.length=i):=hl1;(have hai:a+1≤i:=by have:=HM.out;omega);clear S1 hq hl1 hq1 hq2 H HPT HXA;go_wp2
    go_loopg [13] Q1.length (fun g s13 wr=>∃(k:Nat) (U V:List Pr),s13 = .int .i64 k∧a≤k∧k+1≤i∧i-k≤g+1∧Aside (SWK encP 2 w0 blk off (A++(U++x::(V++(Q2++B)))).toArray wr)∧Hid (Q1=U++V∧k=a+U.length))
    case atStart=>exact⟨a,[],Q1,rfl,Nat.le_refl _,hai,by have:=HL1.out;have:=HM.out;omega,S1',rfl,rfl⟩
    case round=>
     clear S1';obtain⟨k,U,V,rfl,hak,hki,hg2,S1,H2⟩:=hrel;(have ei1:(i:Int)-1=((i-1:Nat):Int):=by omega);(have hiz:IntKind.i64.wrap ((i-1:Nat):Int)=((i-1:Nat):Int):=by rw[IntKind.wrap_i64];omega);by_cases hk:k<i-1
     · have hkz:(k:Int)<((i-1:Nat):Int):=by omega
       have hVn:V≠[]:=by
        intro e;have h1:=H2.out.1;have h2:=HL1.out;have h3:=H2.out.2;have h4:=HM.out;rw[h1,e]at h2;simp at h2;omega
       obtain⟨v,V',hV⟩:∃v V',V=v::V':=by
        cases V with
        |nil=>exact absurd rfl hVn
        |cons v V'=>exact⟨v,V',rfl⟩
       have HV:Hid (V=v::V'):=hV;clear hVn hV;have hs:(A++(U++x::(V++(Q2++B)))).toArray.size=n:=by
        have h1:=HN.out;rw[HQQ.out,H2.out.1]at h1;simp at h1 ⊢;omega
       (have ek:(k:Int).toNat=k:=by omega);(have pk:(0:Int)≤(k:Int):=by omega);(have bk:(k:Int)<(n:Int):=by omega);(have rk:IntKind.i64.wrap (k:Int)=(k:Int):=by rw[IntKind.wrap_i64];omega);(have ek1:((k:Int)+1).toNat=k+1:=by omega);(have pk1:(0:Int)≤(k:Int)+1:=by omega);(have bk1:(k:Int)+1<(n:Int):=by omega);(have rk1:IntKind.i64.wrap ((k:Int)+1)=(k:Int)+1:=by rw[IntKind.wrap_i64];omega);have S2:=R.swapped S1.out hs k (k+1) (by omega) (by omega);have lk:=R.ld1 S1.out hs k (by omega);have lk1:=R.ld1 S1.out hs (k+1) (by omega);have sk:=R.st1 S1.out hs k (by omega) (A++(U++x::(V++(Q2++B)))).toArray[k+1]!;have sk1:=R.st2 S1.out hs k (k+1) (by omega) (by omega) (A++(U++x::(V++(Q2++B)))).toArray[k+1]! (A++(U++x::(V++(Q2++B)))).toArray[k]!;(have el:A++(U++x::(V++(Q2++B)))=(A++U)++x::([]++v::(V'++(Q2++B))):=by rw[HV.out];simp);have HSW:Hid (swp (A++(U++x::(V++(Q2++B)))).toArray k (k+1)=(A++((U++[v])++x::(V'++(Q2++B)))).toArray):=by
        show _=_;rw[swp_at _ _ _ _ _ _ k (k+1) el (by have:=H2.out.2;have:=HA.out;simp;omega) (by have:=H2.out.2;have:=HA.out;simp;omega)];simp
       rw[HSW.out]at S2;have HS2:Aside _:=S2;clear S2 hs el;generalize (A++(U++x::(V++(Q2++B)))).toArray[k+1]! = y1 at HS2 lk1 sk sk1;generalize (A++(U++x::(V++(Q2++B)))).toArray[k]! = y0 at HS2 lk sk1;clear S1;go_wp2_with fail
       go_big_region_o
       clear lk lk1 sk sk1;generalize (wr.drew.setCells blk (off+k*2) (encP y1)).setCells blk (off+(k+1)*2) (encP y0)=w2 at HS2 ⊢;go_wp2;go_roundg (i-(k+1)-1);(case measure=>omega);case rel=>exact⟨k+1,U++[v],V',by go_num,by omega,by omega,by omega,HS2,by rw[H2.out.1,HV.out];simp,by have:=H2.out.2;simp;omega⟩
     · have hkz:¬(k:Int)<((i-1:Nat):Int):=by omega
       go_wp2
       (try simp only[Exit.inBlock,Exit.then]);refine bodyPost_ret (results_none rfl _ _ _) rfl ?_
       refine⟨rfl,Q1++x::Q2,?_,?_⟩
       · have:=insert_left lessB_sto (x:=x) (a:=Q1) (b:=Q2) (by rw[←HQQ.out];exact HQ.out) HQ1.out HQ2.out
         rw[HQQ.out];exact this
       · have h1:=H2.out.1
         have h2:=HL1.out;have h3:=H2.out.2;have h4:=HM.out;have hV:V=[]:=List.eq_nil_of_length_eq_zero (by rw[h1]at h2;simp at h2;omega);have h:=S1.out;rw[hV]at h h1;simp at h1;rw[h1];simpa using h
end
section
open Go.RowKit Go.Shelf Go.Lib Go.Sort Pm
set_option maxRecDepth 1000000
attribute [local go_sem ↓] exec_load_P exec_store_P
theorem zMo(blk off n cap:Nat)(w0 w:World)(R:RowP w0 blk off n)(A Q B:List Pr)(x:Pr)(S:SWK encP 2 w0 blk off (A++(Q++x::B)).toArray w)(hn:(A++(Q++x::B)).length=n)(hQ:Up zAa Q)(hq1:Q.length≠1)(a m b:Nat)(ha:a=A.length)(hm:m=a+Q.length)(hb:b=m+1):
 Calls Tryz.prog 159 #[.slice (some ⟨blk,off,none⟩) n cap,.int .i64 a,.int .i64 m,.int .i64 b,.func (.func 112) #[] #[]] w fun e w'=>e = .returned (.tuple #[])∧∃X,Stably zAa (Q++[x]) X∧SWK encP 2 w0 blk off (A++(X++B)).toArray w':=by
 have hbig:=R.big;have mixed:=zAr;have eg:∀args w,(callFunc 112 args).run Tryz.prog w = .ok (.enter 112 args) w:=enters_of Tryz.func112 (by kernel_rfl) rfl;have hn':A.length+(Q.length+(B.length+1))=n:=by simpa using hn
 have hmn:m<n:=by omega
 have ham:a≤m:=by omega
 obtain⟨dl,hdl⟩:∃dl,m-a=dl:=⟨_,rfl⟩;have ema:(m:Int)-(a:Int)=(dl:Int):=by omega
 have ema1:((dl:Int)==1)=false:=beq_eq_false_iff_ne.2 (by omega);have ebm:(b:Int)-(m:Int)=1:=by omega
 have hxm:(A++(Q++x::B)).toArray[m]! = x:=Pm.get_at _ (A++Q) B x m (by simp) (by simp;omega);have HPT:Hid (∀i,a≤i→i≤m→∃L1 L2,Q=L1++L2∧a+L1.length=i∧(0<L1.length→∃a' u,L1=a'++[u]∧(A++(Q++x::B)).toArray[i-1]! = u)∧(0<L2.length→∃u b',L2=u::b'∧(A++(Q++x::B)).toArray[i]! = u)):=by
  show ∀i,_;intro i h1 h2;obtain⟨L1,L2,g1,g2,g3,g4⟩:=zK5 A Q (x::B) i (by omega) (by omega);exact⟨L1,L2,g1,by omega,g3,g4⟩
 have S0:Aside (SWK encP 2 w0 blk off (A++(Q++x::B)).toArray w):=S;have HN:Hid ((A++(Q++x::B)).length=n):=hn;have HQ:Hid (Up zAa Q):=hQ;have HA:Hid (a=A.length):=ha;have HM:Hid (m=a+Q.length):=hm;have HXM:Hid ((A++(Q++x::B)).toArray[m]! = x):=hxm;have HL:Hid ((A++(Q++x::B)).toArray.size=n):=by show _=_;simpa using hn
 obtain⟨d,hd⟩:∃d:Array Pr,(A++(Q++x::B)).toArray=d:=⟨_,rfl⟩;have HD:Hid ((A++(Q++x::B)).toArray=d):=hd;rw[hd]at S0 HXM HL HPT;clear S hn hn' hQ ha hm hb hxm hd hq1 hdl;go_enter Tryz.func159,Tryz.ntmps159;go_wp2
 go_loopg [14,15] (m-a) (fun g s10 s11 wr=>∃(i j:Nat),s10 = .int .i64 i∧s11 = .int .i64 j∧a≤i∧i≤j∧j≤m∧j-i≤g∧Aside (SWK encP 2 w0 blk off d wr)∧Hid ((i=a∨zAa x.1 d[i-1]!.1=false)∧(j=m∨zAa x.1 d[j]!.1=true)))
 case atStart=>exact⟨a,m,rfl,rfl,Nat.le_refl _,ham,Nat.le_refl _,Nat.le_refl _,S0,.inl rfl,.inl rfl⟩
 case round=>
  clear S0;obtain⟨i,j,rfl,rfl,hmi,hij,hjb,hg,S1,H⟩:=hrel;by_cases hlt:i<j
  · have hltz:(i:Int)<(j:Int):=by omega
    obtain⟨h,hh⟩:∃h,h=(i+j)/2:=⟨_,rfl⟩;(have ehz:((i:Int)+(j:Int))/2=(h:Int):=by omega);(have hih:i≤h:=by omega);(have hhj:h<j:=by omega);clear hh;(have rh:IntKind.i64.wrap (h:Int)=(h:Int):=by rw[IntKind.wrap_i64];omega);(have ph:(0:Int)≤(h:Int):=by omega);(have bh:(h:Int)<(n:Int):=by omega);(have eh:(h:Int).toNat=h:=by omega);(have pa:(0:Int)≤(m:Int):=by omega);(have ba:(m:Int)<(n:Int):=by omega);(have ea:(m:Int).toNat=m:=by omega);have lh:=R.ld S1.out HL.out h (by omega);have la:=R.ld S1.out HL.out m (by omega);rw[HXM.out]at la;obtain⟨y,hy⟩:∃y,d[h]! = y:=⟨_,rfl⟩;rw[hy]at lh;have HY:Hid (d[h]! = y):=hy;clear hy;have hcm:=RowP.cmp S1.out x y;cases hv:zAa x.1 y.1
    · have hv1:¬cfP x y<0:=zD9 hv
      have hv2:decide (cfP x y<0)=false:=decide_eq_false hv1;have HV:Hid (zAa x.1 y.1=false):=hv;clear hv;go_wp2_with fail
      go_quiet_grown (first|(go_at_fn 112;refine Calls.grown_of (hcm _ _))|(go_at_call 112;refine Calls.grown_of (hcm _ _)))
      have S2:Aside (SWK encP 2 w0 blk off d (grow (wr.drewN nq) osq)):=S1.out.grown nq osq;clear lh la hcm S1;generalize grow (wr.drewN nq) osq=w2 at S2 ⊢;go_wp2;go_roundg (j-(h+1));(case measure=>omega);case rel=>exact⟨h+1,j,by go_num,rfl,by omega,by omega,hjb,Nat.le_refl _,S2,.inr (by rw[Nat.add_sub_cancel,HY.out];exact HV.out),H.out.2⟩
    · have hv1:cfP x y<0:=zLe hv
      have hv2:decide (cfP x y<0)=true:=decide_eq_true hv1;have HV:Hid (zAa x.1 y.1=true):=hv;clear hv;go_wp2_with fail
      go_quiet_grown (first|(go_at_fn 112;refine Calls.grown_of (hcm _ _))|(go_at_call 112;refine Calls.grown_of (hcm _ _)))
      have S2:Aside (SWK encP 2 w0 blk off d (grow (wr.drewN nq) osq)):=S1.out.grown nq osq;clear lh la hcm S1;generalize grow (wr.drewN nq) osq=w2 at S2 ⊢;go_wp2;go_roundg (h-i);(case measure=>omega);case rel=>exact⟨i,h,rfl,rfl,hmi,hih,by omega,Nat.le_refl _,S2,H.out.1,.inr (by rw[HY.out];exact HV.out)⟩
  · have hltz:¬(i:Int)<(j:Int):=by omega
    (obtain rfl:i=j:=by omega);obtain⟨Q1,Q2,hq,hl1,hq1,hq2⟩:=HPT.out i hmi hjb;have HQ1:Hid (∀v∈Q1,zAa x.1 v.1=false):=by
     show ∀v∈Q1,_;rcases Nat.eq_zero_or_pos Q1.length with h0|h0
     · rw[List.eq_nil_of_length_eq_zero h0];intro v hv;cases hv
     · obtain⟨a',u,e1,e2⟩:=hq1 h0
       rcases H.out.1 with h1|h1
       · omega
       · rw[e1]
         rw[e2]at h1;have hup:=HQ.out;rw[hq,e1]at hup;exact all_le (zD0 hup) h1
    have HQ2:Hid (∀v∈Q2,zAa x.1 v.1=true):=by
     show ∀v∈Q2,_;rcases Nat.eq_zero_or_pos Q2.length with h0|h0
     · rw[List.eq_nil_of_length_eq_zero h0];intro v hv;cases hv
     · obtain⟨u,b',e1,e2⟩:=hq2 h0
       rcases H.out.2 with h1|h1
       · exfalso
         have hm2:=HM.out;rw[hq,List.length_append]at hm2;omega
       · rw[e1]
         rw[e2]at h1;have hup:=HQ.out;rw[hq,e1]at hup;exact all_gt (zB9 hup) h1
    have HQQ:Hid (Q=Q1++Q2):=hq;have S1':Aside (SWK encP 2 w0 blk off (A++(Q1++(Q2++x::([]++B)))).toArray wr):=by
     have h:=S1.out;rw[←HD.out,hq,List.append_assoc Q1]at h;exact h
    have HL1:Hid (a+Q1.length=i):=hl1;clear S1 hq hl1 hq1 hq2 H HPT HXM;go_wp2
    go_loopg [17] (m-i) (fun g s17 wr=>∃(k:Nat) (U V:List Pr),s17 = .int .i64 k∧i≤k∧k≤m∧k-i≤g∧Aside (SWK encP 2 w0 blk off (A++(Q1++(U++x::(V++B)))).toArray wr)∧Hid (Q2=U++V∧k=i+U.length))
    case atStart=>exact⟨m,Q2,[],rfl,hjb,Nat.le_refl _,Nat.le_refl _,S1',by simp,by have h:=HM.out;rw[HQQ.out,List.length_append]at h;have:=HL1.out;omega⟩
    case round=>
     clear S1';obtain⟨k,U,V,rfl,hak,hki,hg2,S1,H2⟩:=hrel;by_cases hk:i<k
     · have hkz:(i:Int)<(k:Int):=by omega
       obtain⟨U',v,hU⟩:=zRz U (by have:=H2.out.2;omega);have HU:Hid (U=U'++[v]):=hU;clear hU;obtain⟨kp,rfl⟩:∃kp,k=kp+1:=⟨k-1,by omega⟩;have hs:(A++(Q1++(U++x::(V++B)))).toArray.size=n:=by
        have h1:=HN.out;rw[HQQ.out,H2.out.1]at h1;simp at h1 ⊢;omega
       (have ekk:((kp+1:Nat):Int)-1=(kp:Int):=by omega);(have ek:(kp:Int).toNat=kp:=by omega);(have pk:(0:Int)≤(kp:Int):=by omega);(have bk:(kp:Int)<(n:Int):=by omega);(have rk:IntKind.i64.wrap (kp:Int)=(kp:Int):=by rw[IntKind.wrap_i64];omega);(have ek1:((kp:Int)+1).toNat=kp+1:=by omega);(have pk1:(0:Int)≤(kp:Int)+1:=by omega);(have bk1:(kp:Int)+1<(n:Int):=by omega);(have rk1:IntKind.i64.wrap ((kp:Int)+1)=(kp:Int)+1:=by rw[IntKind.wrap_i64];omega);have S2:=R.swapped S1.out hs (kp+1) kp (by omega) (by omega);have lk:=R.ld1 S1.out hs kp (by omega);have lk1:=R.ld1 S1.out hs (kp+1) (by omega);have sk:=R.st1 S1.out hs (kp+1) (by omega) (A++(Q1++(U++x::(V++B)))).toArray[kp]!;have sk1:=R.st2 S1.out hs (kp+1) kp (by omega) (by omega) (A++(Q1++(U++x::(V++B)))).toArray[kp]! (A++(Q1++(U++x::(V++B)))).toArray[kp+1]!;have HSW:Hid (swp (A++(Q1++(U++x::(V++B)))).toArray (kp+1) kp=(A++(Q1++(U'++x::((v::V)++B)))).toArray):=by
        show _=_;(have el:A++(Q1++(U++x::(V++B)))=(A++(Q1++U'))++v::x::(V++B):=by rw[HU.out];simp);(have ep:kp=(A++(Q1++U')).length:=by have h:=H2.out.2;rw[HU.out]at h;have:=HA.out;have:=HL1.out;simp at h ⊢;omega);rw[el,ep,zOr];simp
       rw[HSW.out]at S2;have HS2:Aside _:=S2;clear S2 hs;generalize (A++(Q1++(U++x::(V++B)))).toArray[kp+1]! = y1 at HS2 lk1 sk1;generalize (A++(Q1++(U++x::(V++B)))).toArray[kp]! = y0 at HS2 lk sk sk1;clear S1;go_wp2_with fail
       go_big_region_o
       clear lk lk1 sk sk1;generalize (wr.drew.setCells blk (off+(kp+1)*2) (encP y0)).setCells blk (off+kp*2) (encP y1)=w2 at HS2 ⊢;go_wp2;go_roundg (kp-i);(case measure=>omega);case rel=>exact⟨kp,U',v::V,by first|rfl|go_num,by omega,by omega,Nat.le_refl _,HS2,by rw[H2.out.1,HU.out];simp,by have h:=H2.out.2;rw[HU.out]at h;simp at h;omega⟩
     · have hkz:¬(i:Int)<(k:Int):=by omega
       go_wp2
       (try simp only[Exit.inBlock,Exit.then]);refine bodyPost_ret (results_none rfl _ _ _) rfl ?_
       refine⟨rfl,Q1++x::Q2,?_,?_⟩
       · have:=insert_right lessB_sto (y:=x) (a:=Q1) (b:=Q2) (by rw[←HQQ.out];exact HQ.out) HQ1.out HQ2.out
         rw[HQQ.out];exact this
       · have h1:=H2.out.1
         have hU:U=[]:=List.eq_nil_of_length_eq_zero (by have:=H2.out.2;omega);have h:=S1.out;rw[hU]at h h1;simp at h1;rw[h1];simpa using h
end
