import Derived.Test.YtobjpljdgieklaaGreatDoorJ4
import Derived.Deep.Cut
set_option maxRecDepth 100000
set_option maxHeartbeats 8000000
namespace Go.Proofs.YtobjpljdgieklaaGreatDoor
section
open Go.RowKit Go.Shelf Go.Lib Go.Sort Pm
set_option maxRecDepth 1000000
attribute [local go_sem ↓] exec_load_P exec_store_P
theorem symMerge_two(blk off n cap:Nat)(w0 w:World)(R:RowP w0 blk off n)(A Q B:List Pr)(x:Pr)(S:SWK encP 2 w0 blk off (A++(Q++x::B)).toArray w)(hn:(A++(Q++x::B)).length=n)(hQ:Up zAa Q)(hq1:Q.length≠1)(a m b:Nat)(ha:a=A.length)(hm:m=a+Q.length)(hb:b=m+1):
 Calls Tryz.prog 181 #[.slice (some ⟨blk,off,none⟩) n cap,.int .i64 a,.int .i64 m,.int .i64 b,.func (.func 136) #[] #[]] w fun e w'=>e = .returned (.tuple #[])∧∃X,Stably zAa (Q++[x]) X∧SWK encP 2 w0 blk off (A++(X++B)).toArray w':=by
 have hbig:=R.big;have mixed:=zAn;have eg:∀args w,(callFunc 136 args).run Tryz.prog w = .ok (.enter 136 args) w:=enters_of Tryz.func136 (by kernel_rfl) rfl;have hn':A.length+(Q.length+(B.length+1))=n:=by simpa using hn
 have hmn:m<n:=by omega
 have ham:a≤m:=by omega
 obtain⟨dl,hdl⟩:∃dl,m-a=dl:=⟨_,rfl⟩;have ema:(m:Int)-(a:Int)=(dl:Int):=by omega
 have ema1:((dl:Int)==1)=false:=beq_eq_false_iff_ne.2 (by omega);have ebm:(b:Int)-(m:Int)=1:=by omega
 have hxm:(A++(Q++x::B)).toArray[m]! = x:=Pm.get_at _ (A++Q) B x m (by simp) (by simp;omega);have HPT:Hid (∀i,a≤i→i≤m→∃L1 L2,Q=L1++L2∧a+L1.length=i∧(0<L1.length→∃a' u,L1=a'++[u]∧(A++(Q++x::B)).toArray[i-1]! = u)∧(0<L2.length→∃u b',L2=u::b'∧(A++(Q++x::B)).toArray[i]! = u)):=by
  show ∀i,_;intro i h1 h2;obtain⟨L1,L2,g1,g2,g3,g4⟩:=part_at A Q (x::B) i (by omega) (by omega);exact⟨L1,L2,g1,by omega,g3,g4⟩
 have S0:Aside (SWK encP 2 w0 blk off (A++(Q++x::B)).toArray w):=S;have HN:Hid ((A++(Q++x::B)).length=n):=hn;have HQ:Hid (Up zAa Q):=hQ;have HA:Hid (a=A.length):=ha;have HM:Hid (m=a+Q.length):=hm;have HXM:Hid ((A++(Q++x::B)).toArray[m]! = x):=hxm;have HL:Hid ((A++(Q++x::B)).toArray.size=n):=by show _=_;simpa using hn
 obtain⟨d,hd⟩:∃d:Array Pr,(A++(Q++x::B)).toArray=d:=⟨_,rfl⟩;have HD:Hid ((A++(Q++x::B)).toArray=d):=hd;rw[hd]at S0 HXM HL HPT;clear S hn hn' hQ ha hm hb hxm hd hq1 hdl;go_enter Tryz.func181,Tryz.ntmps181;go_wp2
 go_loopg [14,15] (m-a) (fun g s10 s11 wr=>∃(i j:Nat),s10 = .int .i64 i∧s11 = .int .i64 j∧a≤i∧i≤j∧j≤m∧j-i≤g∧Aside (SWK encP 2 w0 blk off d wr)∧Hid ((i=a∨zAa x.1 d[i-1]!.1=false)∧(j=m∨zAa x.1 d[j]!.1=true)))
 case atStart=>exact⟨a,m,rfl,rfl,Nat.le_refl _,ham,Nat.le_refl _,Nat.le_refl _,S0,.inl rfl,.inl rfl⟩
 case round=>
  clear S0;obtain⟨i,j,rfl,rfl,hmi,hij,hjb,hg,S1,H⟩:=hrel;by_cases hlt:i<j
  · have hltz:(i:Int)<(j:Int):=by omega
    obtain⟨h,hh⟩:∃h,h=(i+j)/2:=⟨_,rfl⟩;(have ehz:((i:Int)+(j:Int))/2=(h:Int):=by omega);(have hih:i≤h:=by omega);(have hhj:h<j:=by omega);clear hh;(have rh:IntKind.i64.wrap (h:Int)=(h:Int):=by rw[IntKind.wrap_i64];omega);(have ph:(0:Int)≤(h:Int):=by omega);(have bh:(h:Int)<(n:Int):=by omega);(have eh:(h:Int).toNat=h:=by omega);(have pa:(0:Int)≤(m:Int):=by omega);(have ba:(m:Int)<(n:Int):=by omega);(have ea:(m:Int).toNat=m:=by omega);have lh:=R.ld S1.out HL.out h (by omega);have la:=R.ld S1.out HL.out m (by omega);rw[HXM.out]at la;obtain⟨y,hy⟩:∃y,d[h]! = y:=⟨_,rfl⟩;rw[hy]at lh;have HY:Hid (d[h]! = y):=hy;clear hy;have hcm:=RowP.cmp S1.out x y;cases hv:zAa x.1 y.1
    · have hv1:¬cfP x y<0:=not_lt_of_cf hv
      have hv2:decide (cfP x y<0)=false:=decide_eq_false hv1;have HV:Hid (zAa x.1 y.1=false):=hv;clear hv;go_wp2_with fail
      go_quiet_grown (first|(go_at_fn 136;refine Calls.grown_of (hcm _ _))|(go_at_call 136;refine Calls.grown_of (hcm _ _)))
      have S2:Aside (SWK encP 2 w0 blk off d (grow (wr.drewN nq) osq)):=S1.out.grown nq osq;clear lh la hcm S1;generalize grow (wr.drewN nq) osq=w2 at S2 ⊢;go_wp2;go_roundg (j-(h+1));(case measure=>omega);case rel=>exact⟨h+1,j,by go_num,rfl,by omega,by omega,hjb,Nat.le_refl _,S2,.inr (by rw[Nat.add_sub_cancel,HY.out];exact HV.out),H.out.2⟩
    · have hv1:cfP x y<0:=lt_of_cf hv
      have hv2:decide (cfP x y<0)=true:=decide_eq_true hv1;have HV:Hid (zAa x.1 y.1=true):=hv;clear hv;go_wp2_with fail
      go_quiet_grown (first|(go_at_fn 136;refine Calls.grown_of (hcm _ _))|(go_at_call 136;refine Calls.grown_of (hcm _ _)))
      have S2:Aside (SWK encP 2 w0 blk off d (grow (wr.drewN nq) osq)):=S1.out.grown nq osq;clear lh la hcm S1;generalize grow (wr.drewN nq) osq=w2 at S2 ⊢;go_wp2;go_roundg (h-i);(case measure=>omega);case rel=>exact⟨i,h,rfl,rfl,hmi,hih,by omega,Nat.le_refl _,S2,H.out.1,.inr (by rw[HY.out];exact HV.out)⟩
  · have hltz:¬(i:Int)<(j:Int):=by omega
    (obtain rfl:i=j:=by omega);obtain⟨Q1,Q2,hq,hl1,hq1,hq2⟩:=HPT.out i hmi hjb;have HQ1:Hid (∀v∈Q1,zAa x.1 v.1=false):=by
     show ∀v∈Q1,_;rcases Nat.eq_zero_or_pos Q1.length with h0|h0
     · rw[List.eq_nil_of_length_eq_zero h0];intro v hv;cases hv
     · obtain⟨a',u,e1,e2⟩:=hq1 h0
       rcases H.out.1 with h1|h1
       · omega
       · rw[e1]
         rw[e2]at h1;have hup:=HQ.out;rw[hq,e1]at hup;exact all_le (up_left hup) h1
    have HQ2:Hid (∀v∈Q2,zAa x.1 v.1=true):=by
     show ∀v∈Q2,_;rcases Nat.eq_zero_or_pos Q2.length with h0|h0
     · rw[List.eq_nil_of_length_eq_zero h0];intro v hv;cases hv
     · obtain⟨u,b',e1,e2⟩:=hq2 h0
       rcases H.out.2 with h1|h1
       · exfalso
         have hm2:=HM.out;rw[hq,List.length_append]at hm2;omega
       · rw[e1]
         rw[e2]at h1;have hup:=HQ.out;rw[hq,e1]at hup;exact all_gt (up_right hup) h1
    have HQQ:Hid (Q=Q1++Q2):=hq;have S1':Aside (SWK encP 2 w0 blk off (A++(Q1++(Q2++x::([]++B)))).toArray wr):=by
     have h:=S1.out;rw[←HD.out,hq,List.append_assoc Q1]at h;exact h
    have HL1:Hid (a+Q1.length=i):=hl1;clear S1 hq hl1 hq1 hq2 H HPT HXM;go_wp2
    go_loopg [17] (m-i) (fun g s17 wr=>∃(k:Nat) (U V:List Pr),s17 = .int .i64 k∧i≤k∧k≤m∧k-i≤g∧Aside (SWK encP 2 w0 blk off (A++(Q1++(U++x::(V++B)))).toArray wr)∧Hid (Q2=U++V∧k=i+U.length))
    case atStart=>exact⟨m,Q2,[],rfl,hjb,Nat.le_refl _,Nat.le_refl _,S1',by simp,by have h:=HM.out;rw[HQQ.out,List.length_append]at h;have:=HL1.out;omega⟩
    case round=>
     clear S1';obtain⟨k,U,V,rfl,hak,hki,hg2,S1,H2⟩:=hrel;by_cases hk:i<k
     · have hkz:(i:Int)<(k:Int):=by omega
       obtain⟨U',v,hU⟩:=zHc U (by have:=H2.out.2;omega);have HU:Hid (U=U'++[v]):=hU;clear hU;obtain⟨kp,rfl⟩:∃kp,k=kp+1:=⟨k-1,by omega⟩;have hs:(A++(Q1++(U++x::(V++B)))).toArray.size=n:=by
        have h1:=HN.out;rw[HQQ.out,H2.out.1]at h1;simp at h1 ⊢;omega
       (have ekk:((kp+1:Nat):Int)-1=(kp:Int):=by omega);(have ek:(kp:Int).toNat=kp:=by omega);(have pk:(0:Int)≤(kp:Int):=by omega);(have bk:(kp:Int)<(n:Int):=by omega);(have rk:IntKind.i64.wrap (kp:Int)=(kp:Int):=by rw[IntKind.wrap_i64];omega);(have ek1:((kp:Int)+1).toNat=kp+1:=by omega);(have pk1:(0:Int)≤(kp:Int)+1:=by omega);(have bk1:(kp:Int)+1<(n:Int):=by omega);(have rk1:IntKind.i64.wrap ((kp:Int)+1)=(kp:Int)+1:=by rw[IntKind.wrap_i64];omega);have S2:=R.swapped S1.out hs (kp+1) kp (by omega) (by omega);have lk:=R.ld1 S1.out hs kp (by omega);have lk1:=R.ld1 S1.out hs (kp+1) (by omega);have sk:=R.st1 S1.out hs (kp+1) (by omega) (A++(Q1++(U++x::(V++B)))).toArray[kp]!;have sk1:=R.st2 S1.out hs (kp+1) kp (by omega) (by omega) (A++(Q1++(U++x::(V++B)))).toArray[kp]! (A++(Q1++(U++x::(V++B)))).toArray[kp+1]!;have HSW:Hid (swp (A++(Q1++(U++x::(V++B)))).toArray (kp+1) kp=(A++(Q1++(U'++x::((v::V)++B)))).toArray):=by
        show _=_;(have el:A++(Q1++(U++x::(V++B)))=(A++(Q1++U'))++v::x::(V++B):=by rw[HU.out];simp);(have ep:kp=(A++(Q1++U')).length:=by have h:=H2.out.2;rw[HU.out]at h;have:=HA.out;have:=HL1.out;simp at h ⊢;omega);rw[el,ep,zJ6];simp
       rw[HSW.out]at S2;have HS2:Aside _:=S2;clear S2 hs;generalize (A++(Q1++(U++x::(V++B)))).toArray[kp+1]! = y1 at HS2 lk1 sk1;generalize (A++(Q1++(U++x::(V++B)))).toArray[kp]! = y0 at HS2 lk sk sk1;clear S1;go_wp2_with fail
       go_big_region_o
       clear lk lk1 sk sk1;generalize (wr.drew.setCells blk (off+(kp+1)*2) (encP y0)).setCells blk (off+kp*2) (encP y1)=w2 at HS2 ⊢;go_wp2;go_roundg (kp-i);(case measure=>omega);case rel=>exact⟨kp,U',v::V,by first|rfl|go_num,by omega,by omega,Nat.le_refl _,HS2,by rw[H2.out.1,HU.out];simp,by have h:=H2.out.2;rw[HU.out]at h;simp at h;omega⟩
     · have hkz:¬(i:Int)<(k:Int):=by omega
       go_wp2
       (try simp only[Exit.inBlock,Exit.then]);refine bodyPost_ret (results_none rfl _ _ _) rfl ?_
       refine⟨rfl,Q1++x::Q2,?_,?_⟩
       · have:=insert_right lessB_sto (y:=x) (a:=Q1) (b:=Q2) (by rw[←HQQ.out];exact HQ.out) HQ1.out HQ2.out
         rw[HQQ.out];exact this
       · have h1:=H2.out.1
         have hU:U=[]:=List.eq_nil_of_length_eq_zero (by have:=H2.out.2;omega);have h:=S1.out;rw[hU]at h h1;simp at h1;rw[h1];simpa using h
end
section
open Go.RowKit Go.Shelf Go.Lib Go.Sort Pm
set_option maxRecDepth 1000000
attribute [local go_sem ↓] exec_load_P exec_store_P
theorem aside{p:Prop}(h:p):Aside p:=h
def SymAt(blk off n cap:Nat)(w0:World)(N:Nat):Prop:=
 ∀(w:World) (A L Q B:List Pr),SWK encP 2 w0 blk off (A++(L++(Q++B))).toArray w→(A++(L++(Q++B))).length=n→Up zAa L→Up zAa Q→0<L.length→0<Q.length→L.length+Q.length≤N→∀(a m b:Nat),a=A.length→m=a+L.length→b=m+Q.length →
  Calls Tryz.prog 181 #[.slice (some ⟨blk,off,none⟩) n cap,.int .i64 a,.int .i64 m,.int .i64 b,.func (.func 136) #[] #[]] w fun e w'=>e = .returned (.tuple #[])∧∃X,Stably zAa (L++Q) X∧SWK encP 2 w0 blk off (A++(X++B)).toArray w'
theorem turn_at(A L Q B:List Pr)(hL:Up zAa L)(hQ:Up zAa Q)(a m b s e:Nat)(ha:a=A.length)(hm:m=a+L.length)(hb:b=m+Q.length)(h1:a≤s)(h2:s≤m)(h3:m≤e)(h4:e≤b)
 (hc1:s=a∨e=b∨zAa (A++(L++(Q++B))).toArray[e]!.1 (A++(L++(Q++B))).toArray[s-1]!.1=false) (hc2:s=m∨e=m∨zAa (A++(L++(Q++B))).toArray[e-1]!.1 (A++(L++(Q++B))).toArray[s]!.1=true):
 ∃L1 L2 Q1 Q2,L=L1++L2∧Q=Q1++Q2∧a+L1.length=s∧m+Q1.length=e∧(∀u∈L1,∀v∈Q2,zAa v.1 u.1=false)∧(∀u∈Q1,∀v∈L2,zAa u.1 v.1=true):=by
 obtain⟨L1,L2,g1,g2,g3,g4⟩:=part_at A L (Q++B) s (by omega) (by omega);obtain⟨Q1,Q2,k1,k2,k3,k4⟩:=part_at (A++L) Q B e (by simp;omega) (by simp;omega);rw[show A++L++(Q++B)=A++(L++(Q++B))by simp]at k3 k4;have k2':m+Q1.length=e:=by simp at k2;omega
 have gl:L1.length+L2.length=L.length:=by rw[g1];simp
 have kl:Q1.length+Q2.length=Q.length:=by rw[k1];simp
 refine⟨L1,L2,Q1,Q2,g1,k1,by omega,k2',?_,?_⟩
 · rcases Nat.eq_zero_or_pos L1.length with z|z
   · rw[List.eq_nil_of_length_eq_zero z];intro u hu;cases hu
   rcases Nat.eq_zero_or_pos Q2.length with y|y
   · rw[List.eq_nil_of_length_eq_zero y];intro u _ v hv;cases hv
   obtain⟨p,u,e1,e2⟩:=g3 z;obtain⟨v,q,f1,f2⟩:=k4 y;rw[e2,f2]at hc1;have hlt:=(hc1.resolve_left (by omega)).resolve_left (by omega);rw[e1,f1];rw[g1,e1]at hL;rw[k1,f1]at hQ;exact up_le lessB_sto (up_left hL) (up_right hQ) hlt
 · rcases Nat.eq_zero_or_pos Q1.length with z|z
   · rw[List.eq_nil_of_length_eq_zero z];intro u hu;cases hu
   rcases Nat.eq_zero_or_pos L2.length with y|y
   · rw[List.eq_nil_of_length_eq_zero y];intro u _ v hv;cases hv
   obtain⟨p,u,e1,e2⟩:=k3 z;obtain⟨v,q,f1,f2⟩:=g4 y;rw[e2,f2]at hc2;have hlt:=(hc2.resolve_left (by omega)).resolve_left (by omega);rw[e1,f1];rw[g1,f1]at hL;rw[k1,e1]at hQ;exact up_lt lessB_sto (up_left hQ) (up_right hL) hlt
theorem half_ok{L1 Q1:List Pr}(hL:Up zAa L1)(hQ:Up zAa Q1)(h:¬(0<L1.length∧0<Q1.length)):Stably zAa (L1++Q1) (L1++Q1):=by
 refine Stably.self ?_;rcases Nat.eq_zero_or_pos L1.length with z|z
 · rw[List.eq_nil_of_length_eq_zero z];exact hQ
 rcases Nat.eq_zero_or_pos Q1.length with y|y
 · rw[List.eq_nil_of_length_eq_zero y];simpa using hL
 · exact absurd ⟨z,y⟩ h
theorem symMerge_any(blk off n cap:Nat)(w0:World)(R:RowP w0 blk off n):∀N,SymAt blk off n cap w0 N:=by
 intro N
 induction N with
 |zero=>intro w A L Q B _ _ _ _ h0 _ hN;omega
 |succ N ih=>
  intro w A L Q B S hn hL hQ h0 h1 hN a m b ha hm hb;by_cases hl1:L.length=1
  · obtain⟨x,rfl⟩:∃x,L=[x]:=by
     match L,hl1 with
     |[x],_=>exact⟨x,rfl⟩
    exact symMerge_one blk off n cap w0 w R A Q B x S hn hQ a m b ha hm hb
  by_cases hq1:Q.length=1
  · obtain⟨x,rfl⟩:∃x,Q=[x]:=by
     match Q,hq1 with
     |[x],_=>exact⟨x,rfl⟩
    exact symMerge_two blk off n cap w0 w R A L B x S hn hL hl1 a m b ha hm hb
  have hbig:=R.big;have mixed:=zAn;have eg:∀args w,(callFunc 136 args).run Tryz.prog w = .ok (.enter 136 args) w:=enters_of Tryz.func136 (by kernel_rfl) rfl;have hn':A.length+(L.length+(Q.length+B.length))=n:=by simpa using hn
  obtain⟨dl,hdl⟩:∃dl,m-a=dl:=⟨_,rfl⟩;obtain⟨dq,hdq⟩:∃dq,b-m=dq:=⟨_,rfl⟩;have ema:(m:Int)-(a:Int)=(dl:Int):=by omega
  have ema1:((dl:Int)==1)=false:=beq_eq_false_iff_ne.2 (by omega);have ebm:(b:Int)-(m:Int)=(dq:Int):=by omega
  have ebm1:((dq:Int)==1)=false:=beq_eq_false_iff_ne.2 (by omega);obtain⟨mid,hmid⟩:∃mid,mid=(a+b)/2:=⟨_,rfl⟩;have emid:((a:Int)+(b:Int))/2=(mid:Int):=by omega
  obtain⟨nn,hnn⟩:∃nn,nn=mid+m:=⟨_,rfl⟩;have enn:(mid:Int)+(m:Int)=(nn:Int):=by omega
  obtain⟨p,hp⟩:∃p,p+1=nn:=⟨nn-1,by omega⟩;have ep:(nn:Int)-1=(p:Int):=by omega
  obtain⟨st0,r0,hst⟩:∃st0 r0,(mid<m∧st0+b=nn∧r0=mid)∨(m≤mid∧st0=a∧r0=m):=by
   by_cases h:mid<m
   · exact⟨nn-b,mid,.inl ⟨h,by omega,rfl⟩⟩
   · exact⟨a,m,.inr ⟨by omega,rfl,rfl⟩⟩
  have hsr:st0≤r0:=by omega
  have hast:a≤st0:=by omega
  have hrm:r0≤m:=by omega
  have hrmid:r0≤mid:=by omega
  have hstp:nn≤st0+b:=by omega
  have hbn:b≤n:=by omega
  have hrp:r0≤p+1-m:=by omega
  have IH:Hid (SymAt blk off n cap w0 N∧SymAt blk off n cap w0 N):=⟨ih,ih⟩;have S0:Aside (SWK encP 2 w0 blk off (A++(L++(Q++B))).toArray w):=S;have HLEN:Hid ((A++(L++(Q++B))).length=n):=hn;have HUP:Hid (Up zAa L∧Up zAa Q):=⟨hL,hQ⟩;have HAA:Hid (a=A.length):=ha;have HMB:Hid (m=a+L.length∧b=m+Q.length):=⟨hm,hb⟩;have HLN0:Hid (nn=mid+m∧p+1=nn):=⟨hnn,hp⟩;have HN1:Hid (L.length+Q.length≤N+1∧a<mid∧mid<b):=⟨hN,by omega,by omega⟩;have HST:Hid ((mid<m∧st0+b=nn∧r0=mid)∨(m≤mid∧st0=a∧r0=m)):=hst;have HL:Hid ((A++(L++(Q++B))).toArray.size=n):=by show _=_;simpa using hn
  obtain⟨d,hd⟩:∃d:Array Pr,(A++(L++(Q++B))).toArray=d:=⟨_,rfl⟩;have HD:Hid ((A++(L++(Q++B))).toArray=d):=hd;rw[hd]at S0 HL;have hpm:m≤p+1:=by omega
  clear S hn hn' hL hQ h0 h1 hN ha hm hb hd hl1 hq1 hdl hdq hnn hp ih hmid hst;go_enter Tryz.func181,Tryz.ntmps181
  go_upto_if 140 with fail
  go_cut [20,21]from 138 (fun s20 s21 wc=>s20 = .int .i64 st0∧s21 = .int .i64 r0∧wc=w)
  case first=>
   by_cases hcase:mid<m
   · have hcz:(mid:Int)<(m:Int):=by omega
     (have est:(nn:Int)-(b:Int)=(st0:Int):=by have:=HST.out;have:=HLN0.out;omega);(have erz:Hid (r0=mid):=by show _=_;have:=HST.out;omega);go_wp2
     go_meet
     exact⟨rfl,by rw[erz.out],rfl⟩
   · have hcz:¬(mid:Int)<(m:Int):=by omega
     (have esa:Hid (st0=a):=by show _=_;have:=HST.out;omega);(have erm:Hid (r0=m):=by show _=_;have:=HST.out;omega);go_wp2
     go_meet
     exact⟨by rw[esa.out],by rw[erm.out],rfl⟩
  case rest=>
  obtain⟨rfl,rfl,rfl⟩:=hcut;go_wp2
  go_loopg [20,21] (r0-st0) (fun g s20 s21 wr=>∃(s r:Nat),s20 = .int .i64 s∧s21 = .int .i64 r∧st0≤s∧s≤r∧r≤r0∧r-s≤g∧Aside (SWK encP 2 w0 blk off d wr)∧Hid ((s=st0∨zAa d[p-(s-1)]!.1 d[s-1]!.1=false)∧(r=r0∨zAa d[p-r]!.1 d[r]!.1=true)))
  case atStart=>exact⟨st0,r0,rfl,rfl,Nat.le_refl _,hsr,Nat.le_refl _,Nat.le_refl _,S0,.inl rfl,.inl rfl⟩
  case round=>
   clear S0;obtain⟨s,r,rfl,rfl,hss,hsr2,hrr,hg,S1,H⟩:=hrel;by_cases hlt:s<r
   · have hltz:(s:Int)<(r:Int):=by omega
     obtain⟨c,hc⟩:∃c,c=(s+r)/2:=⟨_,rfl⟩;(have ecz:((s:Int)+(r:Int))/2=(c:Int):=by omega);(have hsc:s≤c:=by omega);(have hcr:c<r:=by omega);clear hc;obtain⟨pc,hpc⟩:∃pc,pc+c=p:=⟨p-c,by omega⟩;(have epc:(p:Int)-(c:Int)=(pc:Int):=by omega);(have hpn:pc<n:=by have:=HLN0.out;omega);(have HPC:Hid (p-c=pc):=by show _=_;omega);clear hpc;(have rc:IntKind.i64.wrap (c:Int)=(c:Int):=by rw[IntKind.wrap_i64];omega);(have pcc:(0:Int)≤(c:Int):=by omega);(have bc:(c:Int)<(n:Int):=by omega);(have ec:(c:Int).toNat=c:=by omega);(have rp:IntKind.i64.wrap (pc:Int)=(pc:Int):=by rw[IntKind.wrap_i64];omega);(have ppc:(0:Int)≤(pc:Int):=by omega);(have bpc:(pc:Int)<(n:Int):=by omega);(have epc2:(pc:Int).toNat=pc:=by omega);have lc:=R.ld S1.out HL.out c (by omega);have lp:=R.ld S1.out HL.out pc hpn;obtain⟨y,hy⟩:∃y,d[pc]! = y:=⟨_,rfl⟩;obtain⟨x,hx⟩:∃x,d[c]! = x:=⟨_,rfl⟩;rw[hy]at lp;rw[hx]at lc;have HY:Hid (d[pc]! = y):=hy;have HX:Hid (d[c]! = x):=hx;clear hy hx;have hcm:=RowP.cmp S1.out y x;cases hv:zAa y.1 x.1
     · have hv1:¬cfP y x<0:=not_lt_of_cf hv
       have hv2:decide (cfP y x<0)=false:=decide_eq_false hv1;have HV:Hid (zAa y.1 x.1=false):=hv;clear hv;go_wp2_with fail
       go_quiet_grown (first|(go_at_fn 136;refine Calls.grown_of (hcm _ _))|(go_at_call 136;refine Calls.grown_of (hcm _ _)))
       have S2:Aside (SWK encP 2 w0 blk off d (grow (wr.drewN nq) osq)):=S1.out.grown nq osq;clear lc lp hcm S1;generalize grow (wr.drewN nq) osq=w2 at S2 ⊢;go_wp2;go_roundg (r-(c+1));(case measure=>omega);case rel=>exact⟨c+1,r,by go_num,rfl,by omega,by omega,hrr,Nat.le_refl _,S2,.inr (by rw[Nat.add_sub_cancel,HPC.out,HY.out,HX.out];exact HV.out),H.out.2⟩
     · have hv1:cfP y x<0:=lt_of_cf hv
       have hv2:decide (cfP y x<0)=true:=decide_eq_true hv1;have HV:Hid (zAa y.1 x.1=true):=hv;clear hv;go_wp2_with fail
       go_quiet_grown (first|(go_at_fn 136;refine Calls.grown_of (hcm _ _))|(go_at_call 136;refine Calls.grown_of (hcm _ _)))
       have S2:Aside (SWK encP 2 w0 blk off d (grow (wr.drewN nq) osq)):=S1.out.grown nq osq;clear lc lp hcm S1;generalize grow (wr.drewN nq) osq=w2 at S2 ⊢;go_wp2;go_roundg (c-s);(case measure=>omega);case rel=>exact⟨s,c,rfl,rfl,hss,hsc,by omega,Nat.le_refl _,S2,H.out.1,.inr (by rw[HPC.out,HY.out,HX.out];exact HV.out)⟩
   · have hltz:¬(s:Int)<(r:Int):=by omega
     (obtain rfl:s=r:=by omega);obtain⟨en,hen⟩:∃en,en+s=nn:=⟨nn-s,by have:=HLN0.out;omega⟩;(have een:(nn:Int)-(s:Int)=(en:Int):=by omega);(have hm1:m≤en:=by have:=HLN0.out;omega);have hm2:en≤b:=by omega
     have hcut:=turn_at A L Q B HUP.out.1 HUP.out.2 a m b s en HAA.out HMB.out.1 HMB.out.2 (by omega) (by omega) hm1 hm2
      (by
       rw[HD.out];by_cases e:s=st0
       · have:=HST.out;omega
       · have h:=H.out.1.resolve_left e
         rw[show p-(s-1)=en by have:=HLN0.out;omega]at h;exact .inr (.inr h))
      (by
       rw[HD.out];by_cases e:s=r0
       · have:=HST.out;have:=HLN0.out;omega
       · have h:=H.out.2.resolve_left e
         rw[show p-s=en-1 by have:=HLN0.out;omega]at h;exact .inr (.inr h))
     obtain⟨L1,L2,Q1,Q2,eL,eQ,l1,l2,g1,g2⟩:=hcut;(have HUL:Hid (Up zAa (L1++L2)∧Up zAa (Q1++Q2)):=by have h:=HUP.out;rw[eL,eQ]at h;exact h);have HLN:Hid (a+L1.length=s∧m+Q1.length=en∧m=s+L2.length∧b=en+Q2.length∧en+s=mid+m∧A.length+(L1.length+(L2.length+(Q1.length+(Q2.length+B.length))))=n∧a=A.length∧a<mid∧mid<b∧b-a≤N+1):=by
      have h1:=HMB.out;have h2:=HLEN.out;have h3:=HLN0.out;have h4:=HN1.out;have h5:=HAA.out;rw[eL,eQ]at h1 h2 h4;show _∧_;simp at h1 h2 h4;omega
     have HF:Hid (∀X Y,Stably zAa (L1++Q1) X→Stably zAa (L2++Q2) Y→Stably zAa (L++Q) (X++Y)):=fun X Y h1 h2=>by
      rw[eL,eQ];exact turned lessB_sto HUL.out.1 HUL.out.2 g1 g2 h1 h2
     have S2:Aside (SWK encP 2 w0 blk off (A++(L1++(L2++(Q1++(Q2++B))))).toArray wr):=by
      have h:=S1.out;rw[←HD.out,eL,eQ]at h;exact aside (by simpa using h)
     clear S1 eL eQ l1 l2 g1 g2 H HD HL hen;go_upto_region 39 with fail
     go_cut [24,185]from 178 (fun s24 s185 wc=>s24 = .int .i64 en∧s185 = .bool (decide (s<m∧m<en))∧wc=wr)
     case first=>
      by_cases hr1:s<m
      · have hr1z:(s:Int)<(m:Int):=by omega
        by_cases hr2:m<en
        · have hr2z:(m:Int)<(en:Int):=by omega
          go_wp2
          go_meet
          exact⟨rfl,by rw[decide_eq_true (⟨hr1,hr2⟩:s<m∧m<en)],rfl⟩
        · have hr2z:¬(m:Int)<(en:Int):=by omega
          go_wp2
          go_meet
          exact⟨rfl,by rw[decide_eq_false (fun h=>hr2 h.2:¬(s<m∧m<en))],rfl⟩
      · have hr1z:¬(s:Int)<(m:Int):=by omega
        go_wp2
        go_meet
        exact⟨rfl,by rw[decide_eq_false (fun h=>hr1 h.1:¬(s<m∧m<en))],rfl⟩
     case rest=>
     obtain⟨rfl,rfl,rfl⟩:=hcut
     go_upto_if 185 with fail
     go_cut [24]from 178 (fun s24 wd=>s24 = .int .i64 en∧Aside (SWK encP 2 w0 blk off (A++(L1++(Q1++(L2++(Q2++B))))).toArray wd))
     case first=>
      by_cases hr:s<m∧m<en
      · have hc:=rotate_any blk off n cap w0 _ R (A++L1) L2 Q1 (Q2++B) (by have h:=S2.out;simpa using h) (by have:=HLN.out;simp;omega) (by have:=HLN.out;omega) (by have:=HLN.out;omega) s m en (by have:=HLN.out;simp;omega) (by have:=HLN.out;simp;omega) (by have:=HLN.out;simp;omega)
        rw[decide_eq_true hr];go_wp2_with (go_at_call 196;refine hc.mono ?_;rintro e w4 ⟨rfl,S3⟩)
        go_meet
        exact⟨rfl,aside (by have h:=S3;simpa using h)⟩
      · rw[decide_eq_false hr]
        go_wp2
        go_meet
        by_cases hr1:s<m
        · have e1:Q1=[]:=List.eq_nil_of_length_eq_zero (by have:=HLN.out;omega)
          exact⟨rfl,aside (by have h:=S2.out;rw[e1]at h ⊢;simpa using h)⟩
        · have e1:L2=[]:=List.eq_nil_of_length_eq_zero (by have:=HLN.out;omega)
          exact⟨rfl,aside (by have h:=S2.out;rw[e1]at h ⊢;simpa using h)⟩
     case rest=>
     obtain⟨rfl,S3⟩:=hcut;clear S2;go_upto_region 41 with fail
     go_cut [24,199]from 178 (fun s24 s199 we=>s24 = .int .i64 en∧s199 = .bool (decide (a<s∧s<mid))∧Aside (SWK encP 2 w0 blk off (A++(L1++(Q1++(L2++(Q2++B))))).toArray we))
     case first=>
      by_cases hr1:a<s
      · have hr1z:(a:Int)<(s:Int):=by omega
        by_cases hr2:s<mid
        · have hr2z:(s:Int)<(mid:Int):=by omega
          go_wp2
          go_meet
          exact⟨rfl,by rw[decide_eq_true (⟨hr1,hr2⟩:a<s∧s<mid)],S3⟩
        · have hr2z:¬(s:Int)<(mid:Int):=by omega
          go_wp2
          go_meet
          exact⟨rfl,by rw[decide_eq_false (fun h=>hr2 h.2:¬(a<s∧s<mid))],S3⟩
      · have hr1z:¬(a:Int)<(s:Int):=by omega
        go_wp2
        go_meet
        exact⟨rfl,by rw[decide_eq_false (fun h=>hr1 h.1:¬(a<s∧s<mid))],S3⟩
     case rest=>
     clear S3;obtain⟨rfl,rfl,S3⟩:=hcut
     go_upto_if 199 with fail
     go_cut [24]from 178 (fun s24 wd=>s24 = .int .i64 en∧∃X,Hid (Stably zAa (L1++Q1) X)∧Aside (SWK encP 2 w0 blk off ((A++X)++(L2++(Q2++B))).toArray wd))
     case first=>
      by_cases hr:a<s∧s<mid
      · have hc:=IH.out.1 _ A L1 Q1 (L2++(Q2++B)) S3.out (by have:=HLN.out;simp;omega) (up_left HUL.out.1) (up_left HUL.out.2) (by have:=HLN.out;omega) (by have:=HLN.out;omega) (by have:=HLN.out;omega) a s mid HAA.out (by have:=HLN.out;omega) (by have:=HLN.out;omega)
        rw[decide_eq_true hr];go_wp2_with (go_at_call 181;refine hc.mono ?_;rintro e w4 ⟨rfl,X,hX,S4⟩)
        go_meet
        exact⟨rfl,X,hX,aside (by have h:=S4;simpa using h)⟩
      · rw[decide_eq_false hr]
        go_wp2
        go_meet
        exact⟨rfl,L1++Q1,half_ok (up_left HUL.out.1) (up_left HUL.out.2) (by have:=HLN.out;omega),aside (by have h:=S3.out;simpa using h)⟩
     case rest=>
     obtain⟨rfl,X,HX,S4⟩:=hcut;clear S3;(have HXL:Hid (X.length=L1.length+Q1.length):=by show _=_;have:=HX.out.len;simpa using this);by_cases hr1:mid<en
     · have hr1z:(mid:Int)<(en:Int):=by omega
       by_cases hr2:en<b
       · have hr2z:(en:Int)<(b:Int):=by omega
         have hc:=IH.out.1 _ (A++X) L2 Q2 B S4.out (by have:=HLN.out;have:=HXL.out;simp;omega) (up_right HUL.out.1) (up_right HUL.out.2) (by have:=HLN.out;omega) (by have:=HLN.out;omega) (by have:=HLN.out;omega) mid en b (by have:=HLN.out;have:=HXL.out;simp;omega) (by have:=HLN.out;omega) (by have:=HLN.out;omega);go_wp2_with (go_at_call 181;refine hc.mono ?_;rintro e w4 ⟨rfl,Y,hY,S5⟩)
         go_end0
         exact⟨rfl,X++Y,HF.out X Y HX.out hY,by have h:=S5;simpa using h⟩
       · have hr2z:¬(en:Int)<(b:Int):=by omega
         go_wp2
         go_end0
         exact⟨rfl,X++(L2++Q2),HF.out X _ HX.out (half_ok (up_right HUL.out.1) (up_right HUL.out.2) (by have:=HLN.out;omega)),by have h:=S4.out;simpa using h⟩
     · have hr1z:¬(mid:Int)<(en:Int):=by omega
       go_wp2
       go_end0
       exact⟨rfl,X++(L2++Q2),HF.out X _ HX.out (half_ok (up_right HUL.out.1) (up_right HUL.out.2) (by have:=HLN.out;omega)),by have h:=S4.out;simpa using h⟩
end
