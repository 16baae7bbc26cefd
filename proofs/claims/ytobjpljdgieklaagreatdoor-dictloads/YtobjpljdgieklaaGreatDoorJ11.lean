import Derived.Test.YtobjpljdgieklaaGreatDoorJ8
import Derived.Deep.Cut
import Derived.Shelf.Lay
import Derived.Ground.SlsfProg
set_option maxRecDepth 100000
set_option maxHeartbeats 8000000
namespace Go.Proofs.YtobjpljdgieklaaGreatDoor
section
namespace Mq
open Go.RowKit Go.Shelf Go.Lib Go.Sort Pm
set_option maxRecDepth 1000000
attribute [local go_sem ↓] exec_load_P exec_store_P
theorem symMerge_one(blk off n cap:Nat)(w0 w:World)(R:RowP w0 blk off n)(A Q B:List Pr)(x:Pr)(S:SWK encP 3 w0 blk off (A++x::(Q++B)).toArray w)(hn:(A++x::(Q++B)).length=n)(hQ:Up zAa Q)(a m b:Nat)(ha:a=A.length)(hm:m=a+1)(hb:b=m+Q.length):
 Calls Tryz.prog 159 #[.slice (some ⟨blk,off,none⟩) n cap,.int .i64 a,.int .i64 m,.int .i64 b,.func (.func 81) #[] #[]] w fun e w'=>e = .returned (.tuple #[])∧∃X,Stably zAa (x::Q) X∧SWK encP 3 w0 blk off (A++(X++B)).toArray w':=by
 have hbig:=R.big;have mixed:=zAn;have eg:∀args w,(callFunc 81 args).run Tryz.prog w = .ok (.enter 81 args) w:=enters_of Tryz.func81 (by kernel_rfl) rfl;have hn':A.length+(Q.length+B.length+1)=n:=by simpa using hn
 have hbn:b≤n:=by omega
 have han:a<n:=by omega
 have hmb:m≤b:=by omega
 have ema:(m:Int)-(a:Int)=1:=by omega
 have hxa:(A++x::(Q++B)).toArray[a]! = x:=Pm.get_at _ A (Q++B) x a rfl ha;have HPT:Hid (∀i,m≤i→i≤b→∃L1 L2,Q=L1++L2∧m+L1.length=i∧(0<L1.length→∃a' u,L1=a'++[u]∧(A++x::(Q++B)).toArray[i-1]! = u)∧(0<L2.length→∃u b',L2=u::b'∧(A++x::(Q++B)).toArray[i]! = u)):=by
  show ∀i,_;intro i h1 h2;obtain⟨L1,L2,g1,g2,g3,g4⟩:=part_at (A++[x]) Q B i (by simp;omega) (by simp;omega);rw[show A++[x]++(Q++B)=A++x::(Q++B)by simp]at g3 g4;exact⟨L1,L2,g1,by simp at g2;omega,g3,g4⟩
 have S0:Aside (SWK encP 3 w0 blk off (A++x::(Q++B)).toArray w):=S;have HN:Hid ((A++x::(Q++B)).length=n):=hn;have HQ:Hid (Up zAa Q):=hQ;have HA:Hid (a=A.length):=ha;have HM:Hid (m=a+1):=hm;have HB:Hid (b=m+Q.length):=hb;have HXA:Hid ((A++x::(Q++B)).toArray[a]! = x):=hxa;have HL:Hid ((A++x::(Q++B)).toArray.size=n):=by show _=_;simpa using hn
 obtain⟨d,hd⟩:∃d:Array Pr,(A++x::(Q++B)).toArray=d:=⟨_,rfl⟩;have HD:Hid ((A++x::(Q++B)).toArray=d):=hd;rw[hd]at S0 HXA HL HPT;have hma1:m≤n:=by omega
 clear S hn hn' hQ ha hm hb hxa hd;go_enter Tryz.func159,Tryz.ntmps159;go_wp2
 go_loopg [10,11] (b-m) (fun g s10 s11 wr=>∃(i j:Nat),s10 = .int .i64 i∧s11 = .int .i64 j∧m≤i∧i≤j∧j≤b∧j-i≤g∧Aside (SWK encP 3 w0 blk off d wr)∧Hid ((i=m∨zAa d[i-1]!.1 x.1=true)∧(j=b∨zAa d[j]!.1 x.1=false)))
 case atStart=>exact⟨m,b,rfl,rfl,Nat.le_refl _,hmb,Nat.le_refl _,Nat.le_refl _,S0,.inl rfl,.inl rfl⟩
 case round=>
  clear S0;obtain⟨i,j,rfl,rfl,hmi,hij,hjb,hg,S1,H⟩:=hrel;by_cases hlt:i<j
  · have hltz:(i:Int)<(j:Int):=by omega
    obtain⟨h,hh⟩:∃h,h=(i+j)/2:=⟨_,rfl⟩;(have ehz:((i:Int)+(j:Int))/2=(h:Int):=by omega);(have hih:i≤h:=by omega);(have hhj:h<j:=by omega);have HH:Hid (h=(i+j)/2):=hh;clear hh;(have rh:IntKind.i64.wrap (h:Int)=(h:Int):=by rw[IntKind.wrap_i64];omega);(have ph:(0:Int)≤(h:Int):=by omega);(have bh:(h:Int)<(n:Int):=by omega);(have eh:(h:Int).toNat=h:=by omega);(have pa:(0:Int)≤(a:Int):=by omega);(have ba:(a:Int)<(n:Int):=by omega);(have ea:(a:Int).toNat=a:=by omega);have lh:=R.ld S1.out HL.out h (by omega);have la:=R.ld S1.out HL.out a (by omega);rw[HXA.out]at la;obtain⟨y,hy⟩:∃y,d[h]! = y:=⟨_,rfl⟩;rw[hy]at lh;have HY:Hid (d[h]! = y):=hy;clear hy;have hcm:=RowP.cmp S1.out y x;cases hv:zAa y.1 x.1
    · have hv1:¬cfP y x<0:=not_lt_of_cf hv
      have hv2:decide (cfP y x<0)=false:=decide_eq_false hv1;have HV:Hid (zAa y.1 x.1=false):=hv;clear hv;go_wp2_with fail
      go_quiet_grown (first|(go_at_fn 81;refine Calls.grown_of (hcm _ _))|(go_at_call 81;refine Calls.grown_of (hcm _ _)))
      have S2:Aside (SWK encP 3 w0 blk off d (grow (wr.drewN nq) osq)):=S1.out.grown nq osq;clear lh la hcm S1;generalize grow (wr.drewN nq) osq=w2 at S2 ⊢;go_wp2;go_roundg (h-i);(case measure=>omega);case rel=>exact⟨i,h,rfl,rfl,hmi,hih,by omega,Nat.le_refl _,S2,H.out.1,.inr (by rw[HY.out];exact HV.out)⟩
    · have hv1:cfP y x<0:=lt_of_cf hv
      have hv2:decide (cfP y x<0)=true:=decide_eq_true hv1;have HV:Hid (zAa y.1 x.1=true):=hv;clear hv;go_wp2_with fail
      go_quiet_grown (first|(go_at_fn 81;refine Calls.grown_of (hcm _ _))|(go_at_call 81;refine Calls.grown_of (hcm _ _)))
      have S2:Aside (SWK encP 3 w0 blk off d (grow (wr.drewN nq) osq)):=S1.out.grown nq osq;clear lh la hcm S1;generalize grow (wr.drewN nq) osq=w2 at S2 ⊢;go_wp2;go_roundg (j-(h+1));(case measure=>omega);case rel=>exact⟨h+1,j,by go_num,rfl,by omega,by omega,hjb,Nat.le_refl _,S2,.inr (by rw[Nat.add_sub_cancel,HY.out];exact HV.out),H.out.2⟩
  · have hltz:¬(i:Int)<(j:Int):=by omega
    (obtain rfl:i=j:=by omega);obtain⟨Q1,Q2,hq,hl1,hq1,hq2⟩:=HPT.out i hmi hjb;have HQ1:Hid (∀v∈Q1,zAa v.1 x.1=true):=by
     show ∀v∈Q1,_;rcases Nat.eq_zero_or_pos Q1.length with h0|h0
     · rw[List.eq_nil_of_length_eq_zero h0];intro v hv;cases hv
     · obtain⟨a',u,e1,e2⟩:=hq1 h0
       rcases H.out.1 with h1|h1
       · omega
       · rw[e1]
         rw[e2]at h1;have hup:=HQ.out;rw[hq,e1]at hup;exact all_lt (up_left hup) h1
    have HQ2:Hid (∀v∈Q2,zAa v.1 x.1=false):=by
     show ∀v∈Q2,_;rcases Nat.eq_zero_or_pos Q2.length with h0|h0
     · rw[List.eq_nil_of_length_eq_zero h0];intro v hv;cases hv
     · obtain⟨u,b',e1,e2⟩:=hq2 h0
       rcases H.out.2 with h1|h1
       · exfalso
         have hm2:=HB.out;rw[hq,List.length_append]at hm2;omega
       · rw[e1]
         rw[e2]at h1;have hup:=HQ.out;rw[hq,e1]at hup;exact all_ge (up_right hup) h1
    have HQQ:Hid (Q=Q1++Q2):=hq;have S1':Aside (SWK encP 3 w0 blk off (A++([]++x::(Q1++(Q2++B)))).toArray wr):=by
     have h:=S1.out;rw[←HD.out,hq,List.append_assoc Q1]at h;exact h
    have HL1:Hid (m+Q1.length=i):=hl1;(have hai:a+1≤i:=by have:=HM.out;omega);clear S1 hq hl1 hq1 hq2 H HPT HXA;go_wp2
    go_loopg [13] Q1.length (fun g s13 wr=>∃(k:Nat) (U V:List Pr),s13 = .int .i64 k∧a≤k∧k+1≤i∧i-k≤g+1∧Aside (SWK encP 3 w0 blk off (A++(U++x::(V++(Q2++B)))).toArray wr)∧Hid (Q1=U++V∧k=a+U.length))
    case atStart=>exact⟨a,[],Q1,rfl,Nat.le_refl _,hai,by have:=HL1.out;have:=HM.out;omega,S1',rfl,rfl⟩
    case round=>
     clear S1';obtain⟨k,U,V,rfl,hak,hki,hg2,S1,H2⟩:=hrel;(have ei1:(i:Int)-1=((i-1:Nat):Int):=by omega);(have hiz:IntKind.i64.wrap ((i-1:Nat):Int)=((i-1:Nat):Int):=by rw[IntKind.wrap_i64];omega);by_cases hk:k<i-1
     · have hkz:(k:Int)<((i-1:Nat):Int):=by omega
       have hVn:V≠[]:=by
        intro e;have h1:=H2.out.1;have h2:=HL1.out;have h3:=H2.out.2;have h4:=HM.out;rw[h1,e]at h2;simp at h2;omega
       obtain⟨v,V',hV⟩:∃v V',V=v::V':=by
        cases V with
        |nil=>exact absurd rfl hVn
        |cons v V'=>exact⟨v,V',rfl⟩
       have HV:Hid (V=v::V'):=hV;clear hVn hV;have hs:(A++(U++x::(V++(Q2++B)))).toArray.size=n:=by
        have h1:=HN.out;rw[HQQ.out,H2.out.1]at h1;simp at h1 ⊢;omega
       (have ek:(k:Int).toNat=k:=by omega);(have pk:(0:Int)≤(k:Int):=by omega);(have bk:(k:Int)<(n:Int):=by omega);(have rk:IntKind.i64.wrap (k:Int)=(k:Int):=by rw[IntKind.wrap_i64];omega);(have ek1:((k:Int)+1).toNat=k+1:=by omega);(have pk1:(0:Int)≤(k:Int)+1:=by omega);(have bk1:(k:Int)+1<(n:Int):=by omega);(have rk1:IntKind.i64.wrap ((k:Int)+1)=(k:Int)+1:=by rw[IntKind.wrap_i64];omega);have S2:=R.swapped S1.out hs k (k+1) (by omega) (by omega);have lk:=R.ld1 S1.out hs k (by omega);have lk1:=R.ld1 S1.out hs (k+1) (by omega);have sk:=R.st1 S1.out hs k (by omega) (A++(U++x::(V++(Q2++B)))).toArray[k+1]!;have sk1:=R.st2 S1.out hs k (k+1) (by omega) (by omega) (A++(U++x::(V++(Q2++B)))).toArray[k+1]! (A++(U++x::(V++(Q2++B)))).toArray[k]!;(have el:A++(U++x::(V++(Q2++B)))=(A++U)++x::([]++v::(V'++(Q2++B))):=by rw[HV.out];simp);have HSW:Hid (swp (A++(U++x::(V++(Q2++B)))).toArray k (k+1)=(A++((U++[v])++x::(V'++(Q2++B)))).toArray):=by
        show _=_;rw[zPw _ _ _ _ _ _ k (k+1) el (by have:=H2.out.2;have:=HA.out;simp;omega) (by have:=H2.out.2;have:=HA.out;simp;omega)];simp
       rw[HSW.out]at S2;have HS2:Aside _:=S2;clear S2 hs el;generalize (A++(U++x::(V++(Q2++B)))).toArray[k+1]! = y1 at HS2 lk1 sk sk1;generalize (A++(U++x::(V++(Q2++B)))).toArray[k]! = y0 at HS2 lk sk1;clear S1;go_wp2_with fail
       go_big_region_o
       clear lk lk1 sk sk1;generalize (wr.drew.setCells blk (off+k*3) (encP y1)).setCells blk (off+(k+1)*3) (encP y0)=w2 at HS2 ⊢;go_wp2;go_roundg (i-(k+1)-1);(case measure=>omega);case rel=>exact⟨k+1,U++[v],V',by go_num,by omega,by omega,by omega,HS2,by rw[H2.out.1,HV.out];simp,by have:=H2.out.2;simp;omega⟩
     · have hkz:¬(k:Int)<((i-1:Nat):Int):=by omega
       go_wp2
       (try simp only[Exit.inBlock,Exit.then]);refine bodyPost_ret (results_none rfl _ _ _) rfl ?_
       refine⟨rfl,Q1++x::Q2,?_,?_⟩
       · have:=insert_left lessB_sto (x:=x) (a:=Q1) (b:=Q2) (by rw[←HQQ.out];exact HQ.out) HQ1.out HQ2.out
         rw[HQQ.out];exact this
       · have h1:=H2.out.1
         have h2:=HL1.out;have h3:=H2.out.2;have h4:=HM.out;have hV:V=[]:=List.eq_nil_of_length_eq_zero (by rw[h1]at h2;simp at h2;omega);have h:=S1.out;rw[hV]at h h1;simp at h1;rw[h1];simpa using h
end Mq
end
section
namespace Mq
open Go.RowKit Go.Shelf Go.Lib Go.Sort Pm
set_option maxRecDepth 1000000
attribute [local go_sem ↓] exec_load_P exec_store_P
theorem symMerge_two(blk off n cap:Nat)(w0 w:World)(R:RowP w0 blk off n)(A Q B:List Pr)(x:Pr)(S:SWK encP 3 w0 blk off (A++(Q++x::B)).toArray w)(hn:(A++(Q++x::B)).length=n)(hQ:Up zAa Q)(hq1:Q.length≠1)(a m b:Nat)(ha:a=A.length)(hm:m=a+Q.length)(hb:b=m+1):
 Calls Tryz.prog 159 #[.slice (some ⟨blk,off,none⟩) n cap,.int .i64 a,.int .i64 m,.int .i64 b,.func (.func 81) #[] #[]] w fun e w'=>e = .returned (.tuple #[])∧∃X,Stably zAa (Q++[x]) X∧SWK encP 3 w0 blk off (A++(X++B)).toArray w':=by
 have hbig:=R.big;have mixed:=zAn;have eg:∀args w,(callFunc 81 args).run Tryz.prog w = .ok (.enter 81 args) w:=enters_of Tryz.func81 (by kernel_rfl) rfl;have hn':A.length+(Q.length+(B.length+1))=n:=by simpa using hn
 have hmn:m<n:=by omega
 have ham:a≤m:=by omega
 obtain⟨dl,hdl⟩:∃dl,m-a=dl:=⟨_,rfl⟩;have ema:(m:Int)-(a:Int)=(dl:Int):=by omega
 have ema1:((dl:Int)==1)=false:=beq_eq_false_iff_ne.2 (by omega);have ebm:(b:Int)-(m:Int)=1:=by omega
 have hxm:(A++(Q++x::B)).toArray[m]! = x:=Pm.get_at _ (A++Q) B x m (by simp) (by simp;omega);have HPT:Hid (∀i,a≤i→i≤m→∃L1 L2,Q=L1++L2∧a+L1.length=i∧(0<L1.length→∃a' u,L1=a'++[u]∧(A++(Q++x::B)).toArray[i-1]! = u)∧(0<L2.length→∃u b',L2=u::b'∧(A++(Q++x::B)).toArray[i]! = u)):=by
  show ∀i,_;intro i h1 h2;obtain⟨L1,L2,g1,g2,g3,g4⟩:=part_at A Q (x::B) i (by omega) (by omega);exact⟨L1,L2,g1,by omega,g3,g4⟩
 have S0:Aside (SWK encP 3 w0 blk off (A++(Q++x::B)).toArray w):=S;have HN:Hid ((A++(Q++x::B)).length=n):=hn;have HQ:Hid (Up zAa Q):=hQ;have HA:Hid (a=A.length):=ha;have HM:Hid (m=a+Q.length):=hm;have HXM:Hid ((A++(Q++x::B)).toArray[m]! = x):=hxm;have HL:Hid ((A++(Q++x::B)).toArray.size=n):=by show _=_;simpa using hn
 obtain⟨d,hd⟩:∃d:Array Pr,(A++(Q++x::B)).toArray=d:=⟨_,rfl⟩;have HD:Hid ((A++(Q++x::B)).toArray=d):=hd;rw[hd]at S0 HXM HL HPT;clear S hn hn' hQ ha hm hb hxm hd hq1 hdl;go_enter Tryz.func159,Tryz.ntmps159;go_wp2
 go_loopg [14,15] (m-a) (fun g s10 s11 wr=>∃(i j:Nat),s10 = .int .i64 i∧s11 = .int .i64 j∧a≤i∧i≤j∧j≤m∧j-i≤g∧Aside (SWK encP 3 w0 blk off d wr)∧Hid ((i=a∨zAa x.1 d[i-1]!.1=false)∧(j=m∨zAa x.1 d[j]!.1=true)))
 case atStart=>exact⟨a,m,rfl,rfl,Nat.le_refl _,ham,Nat.le_refl _,Nat.le_refl _,S0,.inl rfl,.inl rfl⟩
 case round=>
  clear S0;obtain⟨i,j,rfl,rfl,hmi,hij,hjb,hg,S1,H⟩:=hrel;by_cases hlt:i<j
  · have hltz:(i:Int)<(j:Int):=by omega
    obtain⟨h,hh⟩:∃h,h=(i+j)/2:=⟨_,rfl⟩;(have ehz:((i:Int)+(j:Int))/2=(h:Int):=by omega);(have hih:i≤h:=by omega);(have hhj:h<j:=by omega);clear hh;(have rh:IntKind.i64.wrap (h:Int)=(h:Int):=by rw[IntKind.wrap_i64];omega);(have ph:(0:Int)≤(h:Int):=by omega);(have bh:(h:Int)<(n:Int):=by omega);(have eh:(h:Int).toNat=h:=by omega);(have pa:(0:Int)≤(m:Int):=by omega);(have ba:(m:Int)<(n:Int):=by omega);(have ea:(m:Int).toNat=m:=by omega);have lh:=R.ld S1.out HL.out h (by omega);have la:=R.ld S1.out HL.out m (by omega);rw[HXM.out]at la;obtain⟨y,hy⟩:∃y,d[h]! = y:=⟨_,rfl⟩;rw[hy]at lh;have HY:Hid (d[h]! = y):=hy;clear hy;have hcm:=RowP.cmp S1.out x y;cases hv:zAa x.1 y.1
    · have hv1:¬cfP x y<0:=not_lt_of_cf hv
      have hv2:decide (cfP x y<0)=false:=decide_eq_false hv1;have HV:Hid (zAa x.1 y.1=false):=hv;clear hv;go_wp2_with fail
      go_quiet_grown (first|(go_at_fn 81;refine Calls.grown_of (hcm _ _))|(go_at_call 81;refine Calls.grown_of (hcm _ _)))
      have S2:Aside (SWK encP 3 w0 blk off d (grow (wr.drewN nq) osq)):=S1.out.grown nq osq;clear lh la hcm S1;generalize grow (wr.drewN nq) osq=w2 at S2 ⊢;go_wp2;go_roundg (j-(h+1));(case measure=>omega);case rel=>exact⟨h+1,j,by go_num,rfl,by omega,by omega,hjb,Nat.le_refl _,S2,.inr (by rw[Nat.add_sub_cancel,HY.out];exact HV.out),H.out.2⟩
    · have hv1:cfP x y<0:=lt_of_cf hv
      have hv2:decide (cfP x y<0)=true:=decide_eq_true hv1;have HV:Hid (zAa x.1 y.1=true):=hv;clear hv;go_wp2_with fail
      go_quiet_grown (first|(go_at_fn 81;refine Calls.grown_of (hcm _ _))|(go_at_call 81;refine Calls.grown_of (hcm _ _)))
      have S2:Aside (SWK encP 3 w0 blk off d (grow (wr.drewN nq) osq)):=S1.out.grown nq osq;clear lh la hcm S1;generalize grow (wr.drewN nq) osq=w2 at S2 ⊢;go_wp2;go_roundg (h-i);(case measure=>omega);case rel=>exact⟨i,h,rfl,rfl,hmi,hih,by omega,Nat.le_refl _,S2,H.out.1,.inr (by rw[HY.out];exact HV.out)⟩
  · have hltz:¬(i:Int)<(j:Int):=by omega
    (obtain rfl:i=j:=by omega);obtain⟨Q1,Q2,hq,hl1,hq1,hq2⟩:=HPT.out i hmi hjb;have HQ1:Hid (∀v∈Q1,zAa x.1 v.1=false):=by
     show ∀v∈Q1,_;rcases Nat.eq_zero_or_pos Q1.length with h0|h0
     · rw[List.eq_nil_of_length_eq_zero h0];intro v hv;cases hv
     · obtain⟨a',u,e1,e2⟩:=hq1 h0
       rcases H.out.1 with h1|h1
       · omega
       · rw[e1]
         rw[e2]at h1;have hup:=HQ.out;rw[hq,e1]at hup;exact all_le (up_left hup) h1
    have HQ2:Hid (∀v∈Q2,zAa x.1 v.1=true):=by
     show ∀v∈Q2,_;rcases Nat.eq_zero_or_pos Q2.length with h0|h0
     · rw[List.eq_nil_of_length_eq_zero h0];intro v hv;cases hv
     · obtain⟨u,b',e1,e2⟩:=hq2 h0
       rcases H.out.2 with h1|h1
       · exfalso
         have hm2:=HM.out;rw[hq,List.length_append]at hm2;omega
       · rw[e1]
         rw[e2]at h1;have hup:=HQ.out;rw[hq,e1]at hup;exact all_gt (up_right hup) h1
    have HQQ:Hid (Q=Q1++Q2):=hq;have S1':Aside (SWK encP 3 w0 blk off (A++(Q1++(Q2++x::([]++B)))).toArray wr):=by
     have h:=S1.out;rw[←HD.out,hq,List.append_assoc Q1]at h;exact h
    have HL1:Hid (a+Q1.length=i):=hl1;clear S1 hq hl1 hq1 hq2 H HPT HXM;go_wp2
    go_loopg [17] (m-i) (fun g s17 wr=>∃(k:Nat) (U V:List Pr),s17 = .int .i64 k∧i≤k∧k≤m∧k-i≤g∧Aside (SWK encP 3 w0 blk off (A++(Q1++(U++x::(V++B)))).toArray wr)∧Hid (Q2=U++V∧k=i+U.length))
    case atStart=>exact⟨m,Q2,[],rfl,hjb,Nat.le_refl _,Nat.le_refl _,S1',by simp,by have h:=HM.out;rw[HQQ.out,List.length_append]at h;have:=HL1.out;omega⟩
    case round=>
     clear S1';obtain⟨k,U,V,rfl,hak,hki,hg2,S1,H2⟩:=hrel;by_cases hk:i<k
     · have hkz:(i:Int)<(k:Int):=by omega
       obtain⟨U',v,hU⟩:=zHc U (by have:=H2.out.2;omega);have HU:Hid (U=U'++[v]):=hU;clear hU;obtain⟨kp,rfl⟩:∃kp,k=kp+1:=⟨k-1,by omega⟩;have hs:(A++(Q1++(U++x::(V++B)))).toArray.size=n:=by
        have h1:=HN.out;rw[HQQ.out,H2.out.1]at h1;simp at h1 ⊢;omega
       (have ekk:((kp+1:Nat):Int)-1=(kp:Int):=by omega);(have ek:(kp:Int).toNat=kp:=by omega);(have pk:(0:Int)≤(kp:Int):=by omega);(have bk:(kp:Int)<(n:Int):=by omega);(have rk:IntKind.i64.wrap (kp:Int)=(kp:Int):=by rw[IntKind.wrap_i64];omega);(have ek1:((kp:Int)+1).toNat=kp+1:=by omega);(have pk1:(0:Int)≤(kp:Int)+1:=by omega);(have bk1:(kp:Int)+1<(n:Int):=by omega);(have rk1:IntKind.i64.wrap ((kp:Int)+1)=(kp:Int)+1:=by rw[IntKind.wrap_i64];omega);have S2:=R.swapped S1.out hs (kp+1) kp (by omega) (by omega);have lk:=R.ld1 S1.out hs kp (by omega);have lk1:=R.ld1 S1.out hs (kp+1) (by omega);have sk:=R.st1 S1.out hs (kp+1) (by omega) (A++(Q1++(U++x::(V++B)))).toArray[kp]!;have sk1:=R.st2 S1.out hs (kp+1) kp (by omega) (by omega) (A++(Q1++(U++x::(V++B)))).toArray[kp]! (A++(Q1++(U++x::(V++B)))).toArray[kp+1]!;have HSW:Hid (swp (A++(Q1++(U++x::(V++B)))).toArray (kp+1) kp=(A++(Q1++(U'++x::((v::V)++B)))).toArray):=by
        show _=_;(have el:A++(Q1++(U++x::(V++B)))=(A++(Q1++U'))++v::x::(V++B):=by rw[HU.out];simp);(have ep:kp=(A++(Q1++U')).length:=by have h:=H2.out.2;rw[HU.out]at h;have:=HA.out;have:=HL1.out;simp at h ⊢;omega);rw[el,ep,zJ6];simp
       rw[HSW.out]at S2;have HS2:Aside _:=S2;clear S2 hs;generalize (A++(Q1++(U++x::(V++B)))).toArray[kp+1]! = y1 at HS2 lk1 sk1;generalize (A++(Q1++(U++x::(V++B)))).toArray[kp]! = y0 at HS2 lk sk sk1;clear S1;go_wp2_with fail
       go_big_region_o
       clear lk lk1 sk sk1;generalize (wr.drew.setCells blk (off+(kp+1)*3) (encP y0)).setCells blk (off+kp*3) (encP y1)=w2 at HS2 ⊢;go_wp2;go_roundg (kp-i);(case measure=>omega);case rel=>exact⟨kp,U',v::V,by first|rfl|go_num,by omega,by omega,Nat.le_refl _,HS2,by rw[H2.out.1,HU.out];simp,by have h:=H2.out.2;rw[HU.out]at h;simp at h;omega⟩
     · have hkz:¬(i:Int)<(k:Int):=by omega
       go_wp2
       (try simp only[Exit.inBlock,Exit.then]);refine bodyPost_ret (results_none rfl _ _ _) rfl ?_
       refine⟨rfl,Q1++x::Q2,?_,?_⟩
       · have:=insert_right lessB_sto (y:=x) (a:=Q1) (b:=Q2) (by rw[←HQQ.out];exact HQ.out) HQ1.out HQ2.out
         rw[HQQ.out];exact this
       · have h1:=H2.out.1
         have hU:U=[]:=List.eq_nil_of_length_eq_zero (by have:=H2.out.2;omega);have h:=S1.out;rw[hU]at h h1;simp at h1;rw[h1];simpa using h
end Mq
end
section
namespace Mq
open Go.RowKit Go.Shelf Go.Lib Go.Sort Pm
set_option maxRecDepth 1000000
attribute [local go_sem ↓] exec_load_P exec_store_P
theorem aside{p:Prop}(h:p):Aside p:=h
def SymAt(blk off n cap:Nat)(w0:World)(N:Nat):Prop:=
 ∀(w:World) (A L Q B:List Pr),SWK encP 3 w0 blk off (A++(L++(Q++B))).toArray w→(A++(L++(Q++B))).length=n→Up zAa L→Up zAa Q→0<L.length→0<Q.length→L.length+Q.length≤N→∀(a m b:Nat),a=A.length→m=a+L.length→b=m+Q.length →
  Calls Tryz.prog 159 #[.slice (some ⟨blk,off,none⟩) n cap,.int .i64 a,.int .i64 m,.int .i64 b,.func (.func 81) #[] #[]] w fun e w'=>e = .returned (.tuple #[])∧∃X,Stably zAa (L++Q) X∧SWK encP 3 w0 blk off (A++(X++B)).toArray w'
theorem turn_at(A L Q B:List Pr)(hL:Up zAa L)(hQ:Up zAa Q)(a m b s e:Nat)(ha:a=A.length)(hm:m=a+L.length)(hb:b=m+Q.length)(h1:a≤s)(h2:s≤m)(h3:m≤e)(h4:e≤b)
 (hc1:s=a∨e=b∨zAa (A++(L++(Q++B))).toArray[e]!.1 (A++(L++(Q++B))).toArray[s-1]!.1=false) (hc2:s=m∨e=m∨zAa (A++(L++(Q++B))).toArray[e-1]!.1 (A++(L++(Q++B))).toArray[s]!.1=true):
 ∃L1 L2 Q1 Q2,L=L1++L2∧Q=Q1++Q2∧a+L1.length=s∧m+Q1.length=e∧(∀u∈L1,∀v∈Q2,zAa v.1 u.1=false)∧(∀u∈Q1,∀v∈L2,zAa u.1 v.1=true):=by
 obtain⟨L1,L2,g1,g2,g3,g4⟩:=part_at A L (Q++B) s (by omega) (by omega);obtain⟨Q1,Q2,k1,k2,k3,k4⟩:=part_at (A++L) Q B e (by simp;omega) (by simp;omega);rw[show A++L++(Q++B)=A++(L++(Q++B))by simp]at k3 k4;have k2':m+Q1.length=e:=by simp at k2;omega
 have gl:L1.length+L2.length=L.length:=by rw[g1];simp
 have kl:Q1.length+Q2.length=Q.length:=by rw[k1];simp
 refine⟨L1,L2,Q1,Q2,g1,k1,by omega,k2',?_,?_⟩
 · rcases Nat.eq_zero_or_pos L1.length with z|z
   · rw[List.eq_nil_of_length_eq_zero z];intro u hu;cases hu
   rcases Nat.eq_zero_or_pos Q2.length with y|y
   · rw[List.eq_nil_of_length_eq_zero y];intro u _ v hv;cases hv
   obtain⟨p,u,e1,e2⟩:=g3 z;obtain⟨v,q,f1,f2⟩:=k4 y;rw[e2,f2]at hc1;have hlt:=(hc1.resolve_left (by omega)).resolve_left (by omega);rw[e1,f1];rw[g1,e1]at hL;rw[k1,f1]at hQ;exact up_le lessB_sto (up_left hL) (up_right hQ) hlt
 · rcases Nat.eq_zero_or_pos Q1.length with z|z
   · rw[List.eq_nil_of_length_eq_zero z];intro u hu;cases hu
   rcases Nat.eq_zero_or_pos L2.length with y|y
   · rw[List.eq_nil_of_length_eq_zero y];intro u _ v hv;cases hv
   obtain⟨p,u,e1,e2⟩:=k3 z;obtain⟨v,q,f1,f2⟩:=g4 y;rw[e2,f2]at hc2;have hlt:=(hc2.resolve_left (by omega)).resolve_left (by omega);rw[e1,f1];rw[g1,f1]at hL;rw[k1,e1]at hQ;exact up_lt lessB_sto (up_left hQ) (up_right hL) hlt
theorem half_ok{L1 Q1:List Pr}(hL:Up zAa L1)(hQ:Up zAa Q1)(h:¬(0<L1.length∧0<Q1.length)):Stably zAa (L1++Q1) (L1++Q1):=by
 refine Stably.self ?_;rcases Nat.eq_zero_or_pos L1.length with z|z
 · rw[List.eq_nil_of_length_eq_zero z];exact hQ
 rcases Nat.eq_zero_or_pos Q1.length with y|y
 · rw[List.eq_nil_of_length_eq_zero y];simpa using hL
 · exact absurd ⟨z,y⟩ h
theorem symMerge_any(blk off n cap:Nat)(w0:World)(R:RowP w0 blk off n):∀N,SymAt blk off n cap w0 N:=by
 intro N
 induction N with
 |zero=>intro w A L Q B _ _ _ _ h0 _ hN;omega
 |succ N ih=>
  intro w A L Q B S hn hL hQ h0 h1 hN a m b ha hm hb;by_cases hl1:L.length=1
  · obtain⟨x,rfl⟩:∃x,L=[x]:=by
     match L,hl1 with
     |[x],_=>exact⟨x,rfl⟩
    exact symMerge_one blk off n cap w0 w R A Q B x S hn hQ a m b ha hm hb
  by_cases hq1:Q.length=1
  · obtain⟨x,rfl⟩:∃x,Q=[x]:=by
     match Q,hq1 with
     |[x],_=>exact⟨x,rfl⟩
    exact symMerge_two blk off n cap w0 w R A L B x S hn hL hl1 a m b ha hm hb
  have hbig:=R.big;have mixed:=zAn;have eg:∀args w,(callFunc 81 args).run Tryz.prog w = .ok (.enter 81 args) w:=enters_of Tryz.func81 (by kernel_rfl) rfl;have hn':A.length+(L.length+(Q.length+B.length))=n:=by simpa using hn
  obtain⟨dl,hdl⟩:∃dl,m-a=dl:=⟨_,rfl⟩;obtain⟨dq,hdq⟩:∃dq,b-m=dq:=⟨_,rfl⟩;have ema:(m:Int)-(a:Int)=(dl:Int):=by omega
  have ema1:((dl:Int)==1)=false:=beq_eq_false_iff_ne.2 (by omega);have ebm:(b:Int)-(m:Int)=(dq:Int):=by omega
  have ebm1:((dq:Int)==1)=false:=beq_eq_false_iff_ne.2 (by omega);obtain⟨mid,hmid⟩:∃mid,mid=(a+b)/2:=⟨_,rfl⟩;have emid:((a:Int)+(b:Int))/2=(mid:Int):=by omega
  obtain⟨nn,hnn⟩:∃nn,nn=mid+m:=⟨_,rfl⟩;have enn:(mid:Int)+(m:Int)=(nn:Int):=by omega
  obtain⟨p,hp⟩:∃p,p+1=nn:=⟨nn-1,by omega⟩;have ep:(nn:Int)-1=(p:Int):=by omega
  obtain⟨st0,r0,hst⟩:∃st0 r0,(mid<m∧st0+b=nn∧r0=mid)∨(m≤mid∧st0=a∧r0=m):=by
   by_cases h:mid<m
   · exact⟨nn-b,mid,.inl ⟨h,by omega,rfl⟩⟩
   · exact⟨a,m,.inr ⟨by omega,rfl,rfl⟩⟩
  have hsr:st0≤r0:=by omega
  have hast:a≤st0:=by omega
  have hrm:r0≤m:=by omega
  have hrmid:r0≤mid:=by omega
  have hstp:nn≤st0+b:=by omega
  have hbn:b≤n:=by omega
  have hrp:r0≤p+1-m:=by omega
  have IH:Hid (SymAt blk off n cap w0 N∧SymAt blk off n cap w0 N):=⟨ih,ih⟩;have S0:Aside (SWK encP 3 w0 blk off (A++(L++(Q++B))).toArray w):=S;have HLEN:Hid ((A++(L++(Q++B))).length=n):=hn;have HUP:Hid (Up zAa L∧Up zAa Q):=⟨hL,hQ⟩;have HAA:Hid (a=A.length):=ha;have HMB:Hid (m=a+L.length∧b=m+Q.length):=⟨hm,hb⟩;have HLN0:Hid (nn=mid+m∧p+1=nn):=⟨hnn,hp⟩;have HN1:Hid (L.length+Q.length≤N+1∧a<mid∧mid<b):=⟨hN,by omega,by omega⟩;have HST:Hid ((mid<m∧st0+b=nn∧r0=mid)∨(m≤mid∧st0=a∧r0=m)):=hst;have HL:Hid ((A++(L++(Q++B))).toArray.size=n):=by show _=_;simpa using hn
  obtain⟨d,hd⟩:∃d:Array Pr,(A++(L++(Q++B))).toArray=d:=⟨_,rfl⟩;have HD:Hid ((A++(L++(Q++B))).toArray=d):=hd;rw[hd]at S0 HL;have hpm:m≤p+1:=by omega
  clear S hn hn' hL hQ h0 h1 hN ha hm hb hd hl1 hq1 hdl hdq hnn hp ih hmid hst;go_enter Tryz.func159,Tryz.ntmps159
  go_upto_if 140 with fail
  go_cut [20,21]from 138 (fun s20 s21 wc=>s20 = .int .i64 st0∧s21 = .int .i64 r0∧wc=w)
  case first=>
   by_cases hcase:mid<m
   · have hcz:(mid:Int)<(m:Int):=by omega
     (have est:(nn:Int)-(b:Int)=(st0:Int):=by have:=HST.out;have:=HLN0.out;omega);(have erz:Hid (r0=mid):=by show _=_;have:=HST.out;omega);go_wp2
     go_meet
     exact⟨rfl,by rw[erz.out],rfl⟩
   · have hcz:¬(mid:Int)<(m:Int):=by omega
     (have esa:Hid (st0=a):=by show _=_;have:=HST.out;omega);(have erm:Hid (r0=m):=by show _=_;have:=HST.out;omega);go_wp2
     go_meet
     exact⟨by rw[esa.out],by rw[erm.out],rfl⟩
  case rest=>
  obtain⟨rfl,rfl,rfl⟩:=hcut;go_wp2
  go_loopg [20,21] (r0-st0) (fun g s20 s21 wr=>∃(s r:Nat),s20 = .int .i64 s∧s21 = .int .i64 r∧st0≤s∧s≤r∧r≤r0∧r-s≤g∧Aside (SWK encP 3 w0 blk off d wr)∧Hid ((s=st0∨zAa d[p-(s-1)]!.1 d[s-1]!.1=false)∧(r=r0∨zAa d[p-r]!.1 d[r]!.1=true)))
  case atStart=>exact⟨st0,r0,rfl,rfl,Nat.le_refl _,hsr,Nat.le_refl _,Nat.le_refl _,S0,.inl rfl,.inl rfl⟩
  case round=>
   clear S0;obtain⟨s,r,rfl,rfl,hss,hsr2,hrr,hg,S1,H⟩:=hrel;by_cases hlt:s<r
   · have hltz:(s:Int)<(r:Int):=by omega
     obtain⟨c,hc⟩:∃c,c=(s+r)/2:=⟨_,rfl⟩;(have ecz:((s:Int)+(r:Int))/2=(c:Int):=by omega);(have hsc:s≤c:=by omega);(have hcr:c<r:=by omega);clear hc;obtain⟨pc,hpc⟩:∃pc,pc+c=p:=⟨p-c,by omega⟩;(have epc:(p:Int)-(c:Int)=(pc:Int):=by omega);(have hpn:pc<n:=by have:=HLN0.out;omega);(have HPC:Hid (p-c=pc):=by show _=_;omega);clear hpc;(have rc:IntKind.i64.wrap (c:Int)=(c:Int):=by rw[IntKind.wrap_i64];omega);(have pcc:(0:Int)≤(c:Int):=by omega);(have bc:(c:Int)<(n:Int):=by omega);(have ec:(c:Int).toNat=c:=by omega);(have rp:IntKind.i64.wrap (pc:Int)=(pc:Int):=by rw[IntKind.wrap_i64];omega);(have ppc:(0:Int)≤(pc:Int):=by omega);(have bpc:(pc:Int)<(n:Int):=by omega);(have epc2:(pc:Int).toNat=pc:=by omega);have lc:=R.ld S1.out HL.out c (by omega);have lp:=R.ld S1.out HL.out pc hpn;obtain⟨y,hy⟩:∃y,d[pc]! = y:=⟨_,rfl⟩;obtain⟨x,hx⟩:∃x,d[c]! = x:=⟨_,rfl⟩;rw[hy]at lp;rw[hx]at lc;have HY:Hid (d[pc]! = y):=hy;have HX:Hid (d[c]! = x):=hx;clear hy hx;have hcm:=RowP.cmp S1.out y x;cases hv:zAa y.1 x.1
     · have hv1:¬cfP y x<0:=not_lt_of_cf hv
       have hv2:decide (cfP y x<0)=false:=decide_eq_false hv1;have HV:Hid (zAa y.1 x.1=false):=hv;clear hv;go_wp2_with fail
       go_quiet_grown (first|(go_at_fn 81;refine Calls.grown_of (hcm _ _))|(go_at_call 81;refine Calls.grown_of (hcm _ _)))
       have S2:Aside (SWK encP 3 w0 blk off d (grow (wr.drewN nq) osq)):=S1.out.grown nq osq;clear lc lp hcm S1;generalize grow (wr.drewN nq) osq=w2 at S2 ⊢;go_wp2;go_roundg (r-(c+1));(case measure=>omega);case rel=>exact⟨c+1,r,by go_num,rfl,by omega,by omega,hrr,Nat.le_refl _,S2,.inr (by rw[Nat.add_sub_cancel,HPC.out,HY.out,HX.out];exact HV.out),H.out.2⟩
     · have hv1:cfP y x<0:=lt_of_cf hv
       have hv2:decide (cfP y x<0)=true:=decide_eq_true hv1;have HV:Hid (zAa y.1 x.1=true):=hv;clear hv;go_wp2_with fail
       go_quiet_grown (first|(go_at_fn 81;refine Calls.grown_of (hcm _ _))|(go_at_call 81;refine Calls.grown_of (hcm _ _)))
       have S2:Aside (SWK encP 3 w0 blk off d (grow (wr.drewN nq) osq)):=S1.out.grown nq osq;clear lc lp hcm S1;generalize grow (wr.drewN nq) osq=w2 at S2 ⊢;go_wp2;go_roundg (c-s);(case measure=>omega);case rel=>exact⟨s,c,rfl,rfl,hss,hsc,by omega,Nat.le_refl _,S2,H.out.1,.inr (by rw[HPC.out,HY.out,HX.out];exact HV.out)⟩
   · have hltz:¬(s:Int)<(r:Int):=by omega
     (obtain rfl:s=r:=by omega);obtain⟨en,hen⟩:∃en,en+s=nn:=⟨nn-s,by have:=HLN0.out;omega⟩;(have een:(nn:Int)-(s:Int)=(en:Int):=by omega);(have hm1:m≤en:=by have:=HLN0.out;omega);have hm2:en≤b:=by omega
     have hcut:=turn_at A L Q B HUP.out.1 HUP.out.2 a m b s en HAA.out HMB.out.1 HMB.out.2 (by omega) (by omega) hm1 hm2
      (by
       rw[HD.out];by_cases e:s=st0
       · have:=HST.out;omega
       · have h:=H.out.1.resolve_left e
         rw[show p-(s-1)=en by have:=HLN0.out;omega]at h;exact .inr (.inr h))
      (by
       rw[HD.out];by_cases e:s=r0
       · have:=HST.out;have:=HLN0.out;omega
       · have h:=H.out.2.resolve_left e
         rw[show p-s=en-1 by have:=HLN0.out;omega]at h;exact .inr (.inr h))
     obtain⟨L1,L2,Q1,Q2,eL,eQ,l1,l2,g1,g2⟩:=hcut;(have HUL:Hid (Up zAa (L1++L2)∧Up zAa (Q1++Q2)):=by have h:=HUP.out;rw[eL,eQ]at h;exact h);have HLN:Hid (a+L1.length=s∧m+Q1.length=en∧m=s+L2.length∧b=en+Q2.length∧en+s=mid+m∧A.length+(L1.length+(L2.length+(Q1.length+(Q2.length+B.length))))=n∧a=A.length∧a<mid∧mid<b∧b-a≤N+1):=by
      have h1:=HMB.out;have h2:=HLEN.out;have h3:=HLN0.out;have h4:=HN1.out;have h5:=HAA.out;rw[eL,eQ]at h1 h2 h4;show _∧_;simp at h1 h2 h4;omega
     have HF:Hid (∀X Y,Stably zAa (L1++Q1) X→Stably zAa (L2++Q2) Y→Stably zAa (L++Q) (X++Y)):=fun X Y h1 h2=>by
      rw[eL,eQ];exact turned lessB_sto HUL.out.1 HUL.out.2 g1 g2 h1 h2
     have S2:Aside (SWK encP 3 w0 blk off (A++(L1++(L2++(Q1++(Q2++B))))).toArray wr):=by
      have h:=S1.out;rw[←HD.out,eL,eQ]at h;exact aside (by simpa using h)
     clear S1 eL eQ l1 l2 g1 g2 H HD HL hen;go_upto_region 39 with fail
     go_cut [24,185]from 178 (fun s24 s185 wc=>s24 = .int .i64 en∧s185 = .bool (decide (s<m∧m<en))∧wc=wr)
     case first=>
      by_cases hr1:s<m
      · have hr1z:(s:Int)<(m:Int):=by omega
        by_cases hr2:m<en
        · have hr2z:(m:Int)<(en:Int):=by omega
          go_wp2
          go_meet
          exact⟨rfl,by rw[decide_eq_true (⟨hr1,hr2⟩:s<m∧m<en)],rfl⟩
        · have hr2z:¬(m:Int)<(en:Int):=by omega
          go_wp2
          go_meet
          exact⟨rfl,by rw[decide_eq_false (fun h=>hr2 h.2:¬(s<m∧m<en))],rfl⟩
      · have hr1z:¬(s:Int)<(m:Int):=by omega
        go_wp2
        go_meet
        exact⟨rfl,by rw[decide_eq_false (fun h=>hr1 h.1:¬(s<m∧m<en))],rfl⟩
     case rest=>
     obtain⟨rfl,rfl,rfl⟩:=hcut
     go_upto_if 185 with fail
     go_cut [24]from 178 (fun s24 wd=>s24 = .int .i64 en∧Aside (SWK encP 3 w0 blk off (A++(L1++(Q1++(L2++(Q2++B))))).toArray wd))
     case first=>
      by_cases hr:s<m∧m<en
      · have hc:=rotate_any blk off n cap w0 _ R (A++L1) L2 Q1 (Q2++B) (by have h:=S2.out;simpa using h) (by have:=HLN.out;simp;omega) (by have:=HLN.out;omega) (by have:=HLN.out;omega) s m en (by have:=HLN.out;simp;omega) (by have:=HLN.out;simp;omega) (by have:=HLN.out;simp;omega)
        rw[decide_eq_true hr];go_wp2_with (go_at_call 178;refine hc.mono ?_;rintro e w4 ⟨rfl,S3⟩)
        go_meet
        exact⟨rfl,aside (by have h:=S3;simpa using h)⟩
      · rw[decide_eq_false hr]
        go_wp2
        go_meet
        by_cases hr1:s<m
        · have e1:Q1=[]:=List.eq_nil_of_length_eq_zero (by have:=HLN.out;omega)
          exact⟨rfl,aside (by have h:=S2.out;rw[e1]at h ⊢;simpa using h)⟩
        · have e1:L2=[]:=List.eq_nil_of_length_eq_zero (by have:=HLN.out;omega)
          exact⟨rfl,aside (by have h:=S2.out;rw[e1]at h ⊢;simpa using h)⟩
     case rest=>
     obtain⟨rfl,S3⟩:=hcut;clear S2;go_upto_region 41 with fail
     go_cut [24,199]from 178 (fun s24 s199 we=>s24 = .int .i64 en∧s199 = .bool (decide (a<s∧s<mid))∧Aside (SWK encP 3 w0 blk off (A++(L1++(Q1++(L2++(Q2++B))))).toArray we))
     case first=>
      by_cases hr1:a<s
      · have hr1z:(a:Int)<(s:Int):=by omega
        by_cases hr2:s<mid
        · have hr2z:(s:Int)<(mid:Int):=by omega
          go_wp2
          go_meet
          exact⟨rfl,by rw[decide_eq_true (⟨hr1,hr2⟩:a<s∧s<mid)],S3⟩
        · have hr2z:¬(s:Int)<(mid:Int):=by omega
          go_wp2
          go_meet
          exact⟨rfl,by rw[decide_eq_false (fun h=>hr2 h.2:¬(a<s∧s<mid))],S3⟩
      · have hr1z:¬(a:Int)<(s:Int):=by omega
        go_wp2
        go_meet
        exact⟨rfl,by rw[decide_eq_false (fun h=>hr1 h.1:¬(a<s∧s<mid))],S3⟩
     case rest=>
     clear S3;obtain⟨rfl,rfl,S3⟩:=hcut
     go_upto_if 199 with fail
     go_cut [24]from 178 (fun s24 wd=>s24 = .int .i64 en∧∃X,Hid (Stably zAa (L1++Q1) X)∧Aside (SWK encP 3 w0 blk off ((A++X)++(L2++(Q2++B))).toArray wd))
     case first=>
      by_cases hr:a<s∧s<mid
      · have hc:=IH.out.1 _ A L1 Q1 (L2++(Q2++B)) S3.out (by have:=HLN.out;simp;omega) (up_left HUL.out.1) (up_left HUL.out.2) (by have:=HLN.out;omega) (by have:=HLN.out;omega) (by have:=HLN.out;omega) a s mid HAA.out (by have:=HLN.out;omega) (by have:=HLN.out;omega)
        rw[decide_eq_true hr];go_wp2_with (go_at_call 159;refine hc.mono ?_;rintro e w4 ⟨rfl,X,hX,S4⟩)
        go_meet
        exact⟨rfl,X,hX,aside (by have h:=S4;simpa using h)⟩
      · rw[decide_eq_false hr]
        go_wp2
        go_meet
        exact⟨rfl,L1++Q1,half_ok (up_left HUL.out.1) (up_left HUL.out.2) (by have:=HLN.out;omega),aside (by have h:=S3.out;simpa using h)⟩
     case rest=>
     obtain⟨rfl,X,HX,S4⟩:=hcut;clear S3;(have HXL:Hid (X.length=L1.length+Q1.length):=by show _=_;have:=HX.out.len;simpa using this);by_cases hr1:mid<en
     · have hr1z:(mid:Int)<(en:Int):=by omega
       by_cases hr2:en<b
       · have hr2z:(en:Int)<(b:Int):=by omega
         have hc:=IH.out.1 _ (A++X) L2 Q2 B S4.out (by have:=HLN.out;have:=HXL.out;simp;omega) (up_right HUL.out.1) (up_right HUL.out.2) (by have:=HLN.out;omega) (by have:=HLN.out;omega) (by have:=HLN.out;omega) mid en b (by have:=HLN.out;have:=HXL.out;simp;omega) (by have:=HLN.out;omega) (by have:=HLN.out;omega);go_wp2_with (go_at_call 159;refine hc.mono ?_;rintro e w4 ⟨rfl,Y,hY,S5⟩)
         go_end0
         exact⟨rfl,X++Y,HF.out X Y HX.out hY,by have h:=S5;simpa using h⟩
       · have hr2z:¬(en:Int)<(b:Int):=by omega
         go_wp2
         go_end0
         exact⟨rfl,X++(L2++Q2),HF.out X _ HX.out (half_ok (up_right HUL.out.1) (up_right HUL.out.2) (by have:=HLN.out;omega)),by have h:=S4.out;simpa using h⟩
     · have hr1z:¬(mid:Int)<(en:Int):=by omega
       go_wp2
       go_end0
       exact⟨rfl,X++(L2++Q2),HF.out X _ HX.out (half_ok (up_right HUL.out.1) (up_right HUL.out.2) (by have:=HLN.out;omega)),by have h:=S4.out;simpa using h⟩
end Mq
end
section
namespace Mq
open Go.RowKit Go.Shelf Go.Lib Go.Sort Pm
set_option maxRecDepth 1000000
shelf_lay_g SlLaysF0.n20 Slsf 20 at Tryz 158 as insM
theorem insertion_any(blk off n cap:Nat)(w0 w:World)(R:RowP w0 blk off n)(A X B:List Pr)(S:SWK encP 3 w0 blk off (A++(X++B)).toArray w)(hn:(A++(X++B)).length=n)(a b:Nat)(ha:a=A.length)(hb:b=A.length+X.length):
 Calls Tryz.prog 158 #[.slice (some ⟨blk,off,none⟩) n cap,.int .i64 a,.int .i64 b,.func (.func 81) #[] #[]] w fun e w'=>e = .returned (.tuple #[])∧∃X',Stably zAa X X'∧SWK encP 3 w0 blk off (A++(X'++B)).toArray w':=by
 have eg:∀args w,(callFunc 81 args).run Tryz.prog w = .ok (.enter 81 args) w:=enters_of Tryz.func81 (by kernel_rfl) rfl;have hs:(A++(X++B)).toArray.size=n:=by simpa using hn
 obtain⟨⟨d0,e0,K⟩,hbig⟩:=R;have H:=(⟨⟨d0,e0,K⟩,hbig⟩:RowP w0 blk off n).holds S hs;have hc:=AnyQ.insertionSortCmpFunc insM 3 Tryz.isAgg74 Tryz.sizeOf74 encP encP_k encP_one cfP 81 #[] blk off cap a b (A++(X++B)).toArray w eg (byWord_lays blk off _ w) H (S.lt K.hblk) (by omega) (by simp;omega) (by rw[hs];exact hbig);rw[hs]at hc;refine hc.mono ?_;rintro e w' ⟨rfl,q,os,rfl⟩;refine⟨rfl,?_⟩;obtain⟨X',e1,e2⟩:=ins_list lessB_sto A X B;rw[cfP_ltf,ha,hb,e1];refine⟨X',e2,S.on K.hblk q _ os ?_⟩;have:=e2.len;simp;omega
structure Blk(s:Nat)(C:List (List Pr))(Z:List Pr):Prop where
 all:∀c∈C,c.length=s∧Up zAa c
 up:Up zAa Z
 lt:Z.length<s
theorem flat_len6{s:Nat}:∀{C:List (List Pr)},(∀c∈C,c.length=s∧Up zAa c)→C.flatten.length=s*C.length
 |[],_=>by simp
 |c::C,h=>by
  have h1:=(h c (List.mem_cons_self ..)).1;have h2:=flat_len6 (C:=C) fun x hx=>h x (List.mem_cons_of_mem _ hx)
  rw[List.flatten_cons,List.length_append,h1,h2,List.length_cons,Nat.mul_add];omega
theorem blk_done{s n:Nat}{C:List (List Pr)}{Z:List Pr}(h:Blk s C Z)(hs:0<s)(hn:(C.flatten++Z).length=n)(hns:n≤s):Up zAa (C.flatten++Z):=by
 have h1:=flat_len6 h.all;rw[List.length_append,h1]at hn
 match C,h,hn with
 |[],h,_=>simpa using h.up
 |[c],h,hn=>
  have:Z=[]:=List.eq_nil_of_length_eq_zero (by simp at hn;omega);subst this;simpa using(h.all c (List.mem_cons_self ..)).2
 |c::d::C,h,hn=>
  exfalso;rw[List.length_cons,List.length_cons]at hn;have:s*(C.length+1+1)=s*C.length+s+s:=by rw[Nat.mul_add,Nat.mul_add];omega
  omega
theorem of_same_mid{A X X' B:List Pr}(h:Stably zAa X X')(k:ByteArray):Mq.of k (A++(X'++B))=Mq.of k (A++(X++B)):=by
 rw[of_append,of_append,of_append,of_append,h.2]
end Mq
namespace Mq
open Go.RowKit Go.Shelf Go.Lib Go.Sort Pm
set_option maxRecDepth 1000000
theorem stable_any(blk off n cap:Nat)(w0 w:World)(R:RowP w0 blk off n)(hn50:n<1125899906842624)(l0:List Pr)(S:SWK encP 3 w0 blk off l0.toArray w)(hn:l0.length=n):
 Calls Tryz.prog 123 #[.slice (some ⟨blk,off,none⟩) n cap,.int .i64 n,.func (.func 81) #[] #[]] w fun e w'=>e = .returned (.tuple #[])∧∃l',Stably zAa l0 l'∧SWK encP 3 w0 blk off l'.toArray w':=by
 have S0:Aside (SWK encP 3 w0 blk off l0.toArray w):=S;have HN:Hid (l0.length=n):=hn;clear S hn;go_enter Tryz.func123,Tryz.ntmps123;go_wp2
 go_loopg [7,8] n (fun g s7 s8 wr=>∃(a:Nat) (C:List (List Pr)) (Z:List Pr),s7 = .int .i64 a∧s8 = .int .i64 ((a+20:Nat):Int)∧a≤n∧n-a≤g∧Aside (SWK encP 3 w0 blk off (C.flatten++Z).toArray wr)∧Hid ((∀c∈C,c.length=20∧Up zAa c)∧C.flatten.length=a∧(C.flatten++Z).length=n∧∀k,Mq.of k (C.flatten++Z)=Mq.of k l0))
 case atStart=>exact⟨0,[],l0,rfl,by go_num,Nat.zero_le _,by omega,S0,(show Hid _ from⟨fun c hc=>absurd hc (List.not_mem_nil),rfl,HN.out,fun _=>rfl⟩)⟩
 case round=>
  clear S0;obtain⟨a,C,Z,rfl,rfl,han,hg,S1,H⟩:=hrel;by_cases hle:a+20≤n
  · have hlez:((a+20:Nat):Int)≤(n:Int):=by omega
    obtain⟨Z1,Z2,hZ,hZ1⟩:=zDw Z 20 (by have h:=H.out.2.2.1;rw[List.length_append,H.out.2.1]at h;omega);have HZ:Hid (Z=Z1++Z2∧Z1.length=20):=⟨hZ,hZ1⟩;have hc:=insertion_any blk off n cap w0 wr R C.flatten Z1 Z2 (by have h:=S1.out;rw[hZ]at h;exact h) (by have h:=H.out.2.2.1;rw[hZ]at h;exact h) a (a+20) H.out.2.1.symm (by rw[H.out.2.1,hZ1]);(have eb:((a+20:Nat):Int)+20=((a+20+20:Nat):Int):=by omega);clear hZ hZ1 S1;go_wp2_with (go_at_call 158;refine hc.mono ?_;rintro e w2 ⟨rfl,X,hX,S2⟩);have HX:Hid (Stably zAa Z1 X):=hX;have S3:Aside (SWK encP 3 w0 blk off ((C++[X]).flatten++Z2).toArray w2):=aside (by have h:=S2;simpa using h);clear hX S2;go_roundg (n-(a+20));case measure=>omega
    case rel=>
     refine⟨a+20,C++[X],Z2,by first|rfl|go_num,by first|rfl|go_num|rw[←eb],hle,Nat.le_refl _,S3,?_,?_,?_,?_⟩
     · intro c hcm
       rcases List.mem_append.1 hcm with h|h
       · exact H.out.1 c h
       · rw[List.mem_singleton.1 h]
         exact⟨by rw[HX.out.len,HZ.out.2],HX.out.1⟩
     · have h1:=H.out.2.1
       have h2:=HX.out.len;have h3:=HZ.out.2;simp at h1 ⊢;omega
     · have h1:=H.out.2.2.1
       have h2:=HX.out.len;rw[HZ.out.1]at h1;simp at h1 ⊢;omega
     · intro k
       rw[←H.out.2.2.2 k,HZ.out.1,←of_same_mid HX.out k];simp
  · have hlez:¬((a+20:Nat):Int)≤(n:Int):=by omega
    have hc:=insertion_any blk off n cap w0 wr R C.flatten Z [] (by have h:=S1.out;simpa using h) (by have h:=H.out.2.2.1;simpa using h) a n H.out.2.1.symm (by have h:=H.out.2.2.1;rw[List.length_append]at h;omega);clear S1;go_wp2_with (go_at_call 158;refine hc.mono ?_;rintro e w2 ⟨rfl,X,hX,S2⟩);have S3:Aside (SWK encP 3 w0 blk off (C.flatten++X).toArray w2):=aside (by have h:=S2;simpa using h);have H2:Hid (Blk 20 C X∧(C.flatten++X).length=n∧∀k,Mq.of k (C.flatten++X)=Mq.of k l0):=by
     have h1:=H.out;have h2:=hX.len;have h3:=h1.2.2.1;rw[List.length_append]at h3;refine⟨⟨h1.1,hX.1,by omega⟩,by rw[List.length_append];omega,fun k=>?_⟩;rw[←h1.2.2.2 k,of_append,of_append,hX.2]
    clear hX S2 H hc
    go_loopg [6,7,8,9] n (fun g s6 _ _ _ wr=>∃(s:Nat) (C:List (List Pr)) (Z:List Pr),s6 = .int .i64 s∧0<s∧s≤n+n+20∧n-s≤g∧Aside (SWK encP 3 w0 blk off (C.flatten++Z).toArray wr)∧Hid (Blk s C Z∧(C.flatten++Z).length=n∧∀k,Mq.of k (C.flatten++Z)=Mq.of k l0))
    case atStart=>exact⟨20,C,X,rfl,by omega,by omega,by omega,S3,H2.out⟩
    case round=>
     clear S3 H2;obtain⟨s,C,Z,rfl,hs0,hsn,hg2,S1,H⟩:=hrel;by_cases hlt:s<n
     · have hltz:(s:Int)<(n:Int):=by omega
       obtain⟨t,ht⟩:∃t,t=2*s:=⟨_,rfl⟩;(have e2s:2*(s:Int)=(t:Int):=by omega);(have es2:(s:Int)*2=(t:Int):=by omega);(have HT:Hid (t=s+s):=by show _=_;omega);clear ht;(have htb:t≤n+n:=by have:=HT.out;omega);go_wp2
       go_loopg [7,8] n (fun g s7 s8 wr=>∃(a:Nat) (D E:List (List Pr)),s7 = .int .i64 a∧s8 = .int .i64 ((a+t:Nat):Int)∧a≤n∧n-a≤g∧Aside (SWK encP 3 w0 blk off (D.flatten++(E.flatten++Z)).toArray wr)∧Hid ((∀c∈D,c.length=t∧Up zAa c)∧Blk s E Z∧D.flatten.length=a∧(D.flatten++(E.flatten++Z)).length=n∧∀k,Mq.of k (D.flatten++(E.flatten++Z))=Mq.of k l0))
       case atStart=>exact⟨0,[],C,rfl,by go_num,Nat.zero_le _,by(have:=HT.out;omega),S1,(show Hid _ from⟨fun c hc=>absurd hc (List.not_mem_nil),H.out.1,rfl,H.out.2.1,H.out.2.2⟩)⟩
       case round=>
        clear S1 H;obtain⟨a,D,E,rfl,rfl,han,hg3,S1,H⟩:=hrel;obtain⟨am,has⟩:∃am,am=a+s:=⟨_,rfl⟩;(have eas:(a:Int)+(s:Int)=(am:Int):=by(have:=HT.out;omega));have HAS:Hid (am=a+s):=has;clear has;have hlen:Hid (a+(s*E.length+Z.length)=n):=by
         have h1:=H.out.2.2.2.1;rw[List.length_append,H.out.2.2.1,List.length_append,flat_len6 H.out.2.1.all]at h1;exact h1
        by_cases hle2:a+t≤n
        · have hle2z:((a+t:Nat):Int)≤(n:Int):=by(have:=HT.out;omega)
          obtain⟨c1,c2,E',hE⟩:∃c1 c2 E',E=c1::c2::E':=by
           have h1:=hlen.out;have h2:=H.out.2.1.lt
           match E,h1 with
           |[],h1=>simp at h1;(have:=HT.out;omega)
           |[c],h1=>simp at h1;(have:=HT.out;omega)
           |c1::c2::E',_=>exact⟨c1,c2,E',rfl⟩
          have HE:Hid (E=c1::c2::E'):=hE;have hc1:=H.out.2.1.all c1 (by rw[hE];simp);have hc2:=H.out.2.1.all c2 (by rw[hE];simp);have HC:Hid ((c1.length=s∧Up zAa c1)∧(c2.length=s∧Up zAa c2)):=⟨hc1,hc2⟩;have hc:=symMerge_any blk off n cap w0 R (c1.length+c2.length) wr D.flatten c1 c2 (E'.flatten++Z) (by have h:=S1.out;rw[hE]at h;simpa using h) (by have h:=H.out.2.2.2.1;rw[hE]at h;simpa using h) hc1.2 hc2.2 (by(have:=HT.out;omega)) (by(have:=HT.out;omega)) (Nat.le_refl _) a am (a+t) H.out.2.2.1.symm (by have:=HAS.out;(have:=HT.out;omega)) (by have:=HAS.out;(have:=HT.out;omega));(have eb:((a+t:Nat):Int)+((t:Nat):Int)=((a+t+t:Nat):Int):=by(have:=HT.out;omega));clear hE hc1 hc2 S1;go_wp2_with (go_at_call 159;refine hc.mono ?_;rintro e w2 ⟨rfl,X,hX,S2⟩);have HX:Hid (Stably zAa (c1++c2) X):=hX;have S3:Aside (SWK encP 3 w0 blk off ((D++[X]).flatten++(E'.flatten++Z)).toArray w2):=aside (by have h:=S2;simpa using h);clear hX S2;go_roundg (n-(a+t));case measure=>(have:=HT.out;omega)
          case rel=>
           refine⟨a+t,D++[X],E',by first|rfl|go_num,by first|rfl|go_num|rw[←eb],hle2,Nat.le_refl _,S3,?_,?_,?_,?_,?_⟩
           · intro c hcm
             rcases List.mem_append.1 hcm with h|h
             · exact H.out.1 c h
             · rw[List.mem_singleton.1 h]
               have h1:=HX.out.len;have h2:=HC.out;rw[List.length_append]at h1;exact⟨by(have:=HT.out;omega),HX.out.1⟩
           · exact⟨fun c hc=>H.out.2.1.all c (by rw[HE.out];simp[hc]),H.out.2.1.up,H.out.2.1.lt⟩
           · have h1:=H.out.2.2.1
             have h2:=HX.out.len;have h3:=HC.out;simp at h1 h2 ⊢
             (have:=HT.out;omega)
           · have h1:=H.out.2.2.2.1
             have h2:=HX.out.len;rw[HE.out]at h1;simp at h1 h2 ⊢
             (have:=HT.out;omega)
           · intro k
             have h3:=of_same_mid (A:=D.flatten) (B:=E'.flatten++Z) HX.out k;rw[←H.out.2.2.2.2 k,HE.out];simp only[List.flatten_append,List.flatten_cons,List.flatten_nil,List.append_nil,List.append_assoc]at h3 ⊢;exact h3
        · have hle2z:¬((a+t:Nat):Int)≤(n:Int):=by(have:=HT.out;omega)
          by_cases hmn:a+s<n
          · have hmnz:(am:Int)<(n:Int):=by have:=HAS.out;(have:=HT.out;omega)
            obtain⟨c,hE⟩:∃c,E=[c]:=by
             have h1:=hlen.out;have h2:=H.out.2.1.lt
             match E,h1 with
             |[],h1=>simp at h1;(have:=HT.out;omega)
             |[c],h1=>exact⟨c,rfl⟩
             |c1::c2::E',h1=>
              exfalso;rw[List.length_cons,List.length_cons]at h1;have:s*(E'.length+1+1)=s*E'.length+s+s:=by rw[Nat.mul_add,Nat.mul_add];(have:=HT.out;omega)
              (have:=HT.out;omega)
            have HE:Hid (E=[c]):=hE;have hcc:=H.out.2.1.all c (by rw[hE];simp);have HC:Hid (c.length=s∧Up zAa c):=hcc;have hl:=hlen.out;rw[hE]at hl;simp at hl;have hc:=symMerge_any blk off n cap w0 R (c.length+Z.length) wr D.flatten c Z [] (by have h:=S1.out;rw[hE]at h;simpa using h) (by have h:=H.out.2.2.2.1;rw[hE]at h;simpa using h) hcc.2 H.out.2.1.up (by(have:=HT.out;omega)) (by(have:=HT.out;omega)) (Nat.le_refl _) a am n H.out.2.2.1.symm (by have:=HAS.out;(have:=HT.out;omega)) (by have:=HAS.out;(have:=HT.out;omega));clear hE hcc S1 hl;go_wp2_with (go_at_call 159;refine hc.mono ?_;rintro e w2 ⟨rfl,X,hX,S2⟩);have HX:Hid (Stably zAa (c++Z) X):=hX;have S3:Aside (SWK encP 3 w0 blk off (D.flatten++X).toArray w2):=aside (by have h:=S2;simpa using h);clear hX S2;go_roundg (n-t);case measure=>(have:=HT.out;omega)
            case rel=>
             refine⟨t,D,X,by first|rfl|go_num|rw[←es2],by(have:=HT.out;omega),by(have:=HT.out;omega),Nat.le_refl _,S3,⟨H.out.1,HX.out.1,?_⟩,?_,?_⟩
             · have h1:=HX.out.len
               have h2:=HC.out.1;have h3:=H.out.2.1.lt;rw[List.length_append]at h1
               (have:=HT.out;omega)
             · have h1:=H.out.2.2.2.1
               have h2:=HX.out.len;rw[HE.out]at h1;simp at h1 h2 ⊢
               (have:=HT.out;omega)
             · intro k
               rw[←H.out.2.2.2.2 k,HE.out,of_append,HX.out.2,←of_append];simp
          · have hmnz:¬(am:Int)<(n:Int):=by have:=HAS.out;(have:=HT.out;omega)
            have HU:Hid (Up zAa (E.flatten++Z)):=by
             refine blk_done (n:=n-a) H.out.2.1 hs0 ?_ (by(have:=HT.out;omega));have h1:=H.out.2.2.2.1;rw[List.length_append,H.out.2.2.1]at h1
             (have:=HT.out;omega)
            go_wp2;go_roundg (n-t);case measure=>(have:=HT.out;omega)
            case rel=>
             refine⟨t,D,E.flatten++Z,by first|rfl|go_num|rw[←es2],by(have:=HT.out;omega),by(have:=HT.out;omega),Nat.le_refl _,S1,⟨H.out.1,HU.out,?_⟩,H.out.2.2.2.1,H.out.2.2.2.2⟩;have h1:=H.out.2.2.2.1;rw[List.length_append,H.out.2.2.1]at h1
             (have:=HT.out;omega)
     · have hltz:¬(s:Int)<(n:Int):=by omega
       go_wp2
       go_end0
       exact⟨rfl,_,⟨blk_done H.out.1 hs0 H.out.2.1 (by omega),H.out.2.2⟩,S1.out⟩
theorem sortStable_any(blk off n cap:Nat)(w0 w:World)(R:RowP w0 blk off n)(hn50:n<1125899906842624)(l0:List Pr)(S:SWK encP 3 w0 blk off l0.toArray w)(hn:l0.length=n):
 Calls Tryz.prog 80 #[.slice (some ⟨blk,off,none⟩) n cap,.func (.func 81) #[] #[]] w fun e w'=>e = .returned (.tuple #[])∧∃l',Stably zAa l0 l'∧SWK encP 3 w0 blk off l'.toArray w':=by
 have hc:=stable_any blk off n cap w0 w R hn50 l0 S hn;clear S;go_enter Tryz.func80,Tryz.ntmps80;go_wp2_with (go_at_call 123;refine hc.mono ?_;rintro e w2 ⟨rfl,l',h1,h2⟩)
 go_end0
 exact⟨rfl,l',h1,h2⟩
end Mq
end
