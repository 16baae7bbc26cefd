import Derived.Test.YtobjpljdgieklaaGreatDoorJ4
import Derived.Deep.Cut
import Derived.Shelf.Lay
import Derived.Ground.SlsfProg
import Derived.Laws.AppendOwnNone
set_option maxRecDepth 100000
namespace Go.Proofs.YtobjpljdgieklaaGreatDoor
section
open Go.RowKit Go.Shelf Go.Lib Go.Sort Pm
set_option maxRecDepth 1000000
attribute [local go_sem ↓] exec_load_P exec_store_P
set_option maxHeartbeats 8000000 in
theorem symMerge_two(blk off n cap:Nat)(w0 w:World)(R:RowP w0 blk off n)(A Q B:List Pr)(x:Pr)(S:SWK encP 2 w0 blk off (A++(Q++x::B)).toArray w)(hn:(A++(Q++x::B)).length=n)(hQ:Up zAa Q)(hq1:Q.length≠1)(a m b:Nat)(ha:a=A.length)(hm:m=a+Q.length)(hb:b=m+1):
 Calls Tryz.prog 181 #[.slice (some ⟨blk,off,none⟩) n cap,.int .i64 a,.int .i64 m,.int .i64 b,.func (.func 136) #[] #[]] w fun e w'=>e = .returned (.tuple #[])∧∃X,Stably zAa (Q++[x]) X∧SWK encP 2 w0 blk off (A++(X++B)).toArray w':=by
 have hbig:=R.big;have mixed:=zAo;have eg:∀args w,(callFunc 136 args).run Tryz.prog w = .ok (.enter 136 args) w:=enters_of Tryz.func136 (by kernel_rfl) rfl;have hn':A.length+(Q.length+(B.length+1))=n:=by simpa using hn
 have hmn:m<n:=by omega
 have ham:a≤m:=by omega
 obtain⟨dl,hdl⟩:∃dl,m-a=dl:=⟨_,rfl⟩;have ema:(m:Int)-(a:Int)=(dl:Int):=by omega
 have ema1:((dl:Int)==1)=false:=beq_eq_false_iff_ne.2 (by omega);have ebm:(b:Int)-(m:Int)=1:=by omega
 have hxm:(A++(Q++x::B)).toArray[m]! = x:=Pm.get_at _ (A++Q) B x m (by simp) (by simp;omega);have HPT:Hid (∀i,a≤i→i≤m→∃L1 L2,Q=L1++L2∧a+L1.length=i∧(0<L1.length→∃a' u,L1=a'++[u]∧(A++(Q++x::B)).toArray[i-1]! = u)∧(0<L2.length→∃u b',L2=u::b'∧(A++(Q++x::B)).toArray[i]! = u)):=by
  show ∀i,_;intro i h1 h2;obtain⟨L1,L2,g1,g2,g3,g4⟩:=part_at A Q (x::B) i (by omega) (by omega);exact⟨L1,L2,g1,by omega,g3,g4⟩
 have S0:Aside (SWK encP 2 w0 blk off (A++(Q++x::B)).toArray w):=S;have HN:Hid ((A++(Q++x::B)).length=n):=hn;have HQ:Hid (Up zAa Q):=hQ;have HA:Hid (a=A.length):=ha;have HM:Hid (m=a+Q.length):=hm;have HXM:Hid ((A++(Q++x::B)).toArray[m]! = x):=hxm;have HL:Hid ((A++(Q++x::B)).toArray.size=n):=by show _=_;simpa using hn
 obtain⟨d,hd⟩:∃d:Array Pr,(A++(Q++x::B)).toArray=d:=⟨_,rfl⟩;have HD:Hid ((A++(Q++x::B)).toArray=d):=hd;rw[hd]at S0 HXM HL HPT;clear S hn hn' hQ ha hm hb hxm hd hq1 hdl;go_enter Tryz.func181,Tryz.ntmps181;go_wp2
 go_loopg [14,15] (m-a) (fun g s10 s11 wr=>∃(i j:Nat),s10 = .int .i64 i∧s11 = .int .i64 j∧a≤i∧i≤j∧j≤m∧j-i≤g∧Aside (SWK encP 2 w0 blk off d wr)∧Hid ((i=a∨zAa x.1 d[i-1]!.1=false)∧(j=m∨zAa x.1 d[j]!.1=true)))
 case atStart=>exact⟨a,m,rfl,rfl,Nat.le_refl _,ham,Nat.le_refl _,Nat.le_refl _,S0,.inl rfl,.inl rfl⟩
 case round=>
  clear S0;obtain⟨i,j,rfl,rfl,hmi,hij,hjb,hg,S1,H⟩:=hrel;by_cases hlt:i<j
  · have hltz:(i:Int)<(j:Int):=by omega
    obtain⟨h,hh⟩:∃h,h=(i+j)/2:=⟨_,rfl⟩;(have ehz:((i:Int)+(j:Int))/2=(h:Int):=by omega);(have hih:i≤h:=by omega);(have hhj:h<j:=by omega);clear hh;(have rh:IntKind.i64.wrap (h:Int)=(h:Int):=by rw[IntKind.wrap_i64];omega);(have ph:(0:Int)≤(h:Int):=by omega);(have bh:(h:Int)<(n:Int):=by omega);(have eh:(h:Int).toNat=h:=by omega);(have pa:(0:Int)≤(m:Int):=by omega);(have ba:(m:Int)<(n:Int):=by omega);(have ea:(m:Int).toNat=m:=by omega);have lh:=R.ld S1.out HL.out h (by omega);have la:=R.ld S1.out HL.out m (by omega);rw[HXM.out]at la;obtain⟨y,hy⟩:∃y,d[h]! = y:=⟨_,rfl⟩;rw[hy]at lh;have HY:Hid (d[h]! = y):=hy;clear hy;have hcm:=RowP.cmp S1.out x y;cases hv:zAa x.1 y.1
    · have hv1:¬cfP x y<0:=not_lt_of_cf hv
      have hv2:decide (cfP x y<0)=false:=decide_eq_false hv1;have HV:Hid (zAa x.1 y.1=false):=hv;clear hv;go_wp2_with fail
      go_quiet_grown (first|(go_at_fn 136;refine Calls.grown_of (hcm _ _))|(go_at_call 136;refine Calls.grown_of (hcm _ _)))
      have S2:Aside (SWK encP 2 w0 blk off d (grow (wr.drewN nq) osq)):=S1.out.grown nq osq;clear lh la hcm S1;generalize grow (wr.drewN nq) osq=w2 at S2 ⊢;go_wp2;go_roundg (j-(h+1));(case measure=>omega);case rel=>exact⟨h+1,j,by go_num,rfl,by omega,by omega,hjb,Nat.le_refl _,S2,.inr (by rw[Nat.add_sub_cancel,HY.out];exact HV.out),H.out.2⟩
    · have hv1:cfP x y<0:=lt_of_cf hv
      have hv2:decide (cfP x y<0)=true:=decide_eq_true hv1;have HV:Hid (zAa x.1 y.1=true):=hv;clear hv;go_wp2_with fail
      go_quiet_grown (first|(go_at_fn 136;refine Calls.grown_of (hcm _ _))|(go_at_call 136;refine Calls.grown_of (hcm _ _)))
      have S2:Aside (SWK encP 2 w0 blk off d (grow (wr.drewN nq) osq)):=S1.out.grown nq osq;clear lh la hcm S1;generalize grow (wr.drewN nq) osq=w2 at S2 ⊢;go_wp2;go_roundg (h-i);(case measure=>omega);case rel=>exact⟨i,h,rfl,rfl,hmi,hih,by omega,Nat.le_refl _,S2,H.out.1,.inr (by rw[HY.out];exact HV.out)⟩
  · have hltz:¬(i:Int)<(j:Int):=by omega
    (obtain rfl:i=j:=by omega);obtain⟨Q1,Q2,hq,hl1,hq1,hq2⟩:=HPT.out i hmi hjb;have HQ1:Hid (∀v∈Q1,zAa x.1 v.1=false):=by
     show ∀v∈Q1,_;rcases Nat.eq_zero_or_pos Q1.length with h0|h0
     · rw[List.eq_nil_of_length_eq_zero h0];intro v hv;cases hv
     · obtain⟨a',u,e1,e2⟩:=hq1 h0
       rcases H.out.1 with h1|h1
       · omega
       · rw[e1]
         rw[e2]at h1;have hup:=HQ.out;rw[hq,e1]at hup;exact all_le (up_left hup) h1
    have HQ2:Hid (∀v∈Q2,zAa x.1 v.1=true):=by
     show ∀v∈Q2,_;rcases Nat.eq_zero_or_pos Q2.length with h0|h0
     · rw[List.eq_nil_of_length_eq_zero h0];intro v hv;cases hv
     · obtain⟨u,b',e1,e2⟩:=hq2 h0
       rcases H.out.2 with h1|h1
       · exfalso
         have hm2:=HM.out;rw[hq,List.length_append]at hm2;omega
       · rw[e1]
         rw[e2]at h1;have hup:=HQ.out;rw[hq,e1]at hup;exact all_gt (up_right hup) h1
    have HQQ:Hid (Q=Q1++Q2):=hq;have S1':Aside (SWK encP 2 w0 blk off (A++(Q1++(Q2++x::([]++B)))).toArray wr):=by
     have h:=S1.out;rw[←HD.out,hq,List.append_assoc Q1]at h;exact h
    have HL1:Hid (a+Q1.length=i):=hl1;clear S1 hq hl1 hq1 hq2 H HPT HXM;go_wp2
    go_loopg [17] (m-i) (fun g s17 wr=>∃(k:Nat) (U V:List Pr),s17 = .int .i64 k∧i≤k∧k≤m∧k-i≤g∧Aside (SWK encP 2 w0 blk off (A++(Q1++(U++x::(V++B)))).toArray wr)∧Hid (Q2=U++V∧k=i+U.length))
    case atStart=>exact⟨m,Q2,[],rfl,hjb,Nat.le_refl _,Nat.le_refl _,S1',by simp,by have h:=HM.out;rw[HQQ.out,List.length_append]at h;have:=HL1.out;omega⟩
    case round=>
     clear S1';obtain⟨k,U,V,rfl,hak,hki,hg2,S1,H2⟩:=hrel;by_cases hk:i<k
     · have hkz:(i:Int)<(k:Int):=by omega
       obtain⟨U',v,hU⟩:=zHj U (by have:=H2.out.2;omega);have HU:Hid (U=U'++[v]):=hU;clear hU;obtain⟨kp,rfl⟩:∃kp,k=kp+1:=⟨k-1,by omega⟩;have hs:(A++(Q1++(U++x::(V++B)))).toArray.size=n:=by
        have h1:=HN.out;rw[HQQ.out,H2.out.1]at h1;simp at h1 ⊢;omega
       (have ekk:((kp+1:Nat):Int)-1=(kp:Int):=by omega);(have ek:(kp:Int).toNat=kp:=by omega);(have pk:(0:Int)≤(kp:Int):=by omega);(have bk:(kp:Int)<(n:Int):=by omega);(have rk:IntKind.i64.wrap (kp:Int)=(kp:Int):=by rw[IntKind.wrap_i64];omega);(have ek1:((kp:Int)+1).toNat=kp+1:=by omega);(have pk1:(0:Int)≤(kp:Int)+1:=by omega);(have bk1:(kp:Int)+1<(n:Int):=by omega);(have rk1:IntKind.i64.wrap ((kp:Int)+1)=(kp:Int)+1:=by rw[IntKind.wrap_i64];omega);have S2:=R.swapped S1.out hs (kp+1) kp (by omega) (by omega);have lk:=R.ld1 S1.out hs kp (by omega);have lk1:=R.ld1 S1.out hs (kp+1) (by omega);have sk:=R.st1 S1.out hs (kp+1) (by omega) (A++(Q1++(U++x::(V++B)))).toArray[kp]!;have sk1:=R.st2 S1.out hs (kp+1) kp (by omega) (by omega) (A++(Q1++(U++x::(V++B)))).toArray[kp]! (A++(Q1++(U++x::(V++B)))).toArray[kp+1]!;have HSW:Hid (swp (A++(Q1++(U++x::(V++B)))).toArray (kp+1) kp=(A++(Q1++(U'++x::((v::V)++B)))).toArray):=by
        show _=_;(have el:A++(Q1++(U++x::(V++B)))=(A++(Q1++U'))++v::x::(V++B):=by rw[HU.out];simp);(have ep:kp=(A++(Q1++U')).length:=by have h:=H2.out.2;rw[HU.out]at h;have:=HA.out;have:=HL1.out;simp at h ⊢;omega);rw[el,ep,zKm];simp
       rw[HSW.out]at S2;have HS2:Aside _:=S2;clear S2 hs;generalize (A++(Q1++(U++x::(V++B)))).toArray[kp+1]! = y1 at HS2 lk1 sk1;generalize (A++(Q1++(U++x::(V++B)))).toArray[kp]! = y0 at HS2 lk sk sk1;clear S1;go_wp2_with fail
       go_big_region_o
       clear lk lk1 sk sk1;generalize (wr.drew.setCells blk (off+(kp+1)*2) (encP y0)).setCells blk (off+kp*2) (encP y1)=w2 at HS2 ⊢;go_wp2;go_roundg (kp-i);(case measure=>omega);case rel=>exact⟨kp,U',v::V,by first|rfl|go_num,by omega,by omega,Nat.le_refl _,HS2,by rw[H2.out.1,HU.out];simp,by have h:=H2.out.2;rw[HU.out]at h;simp at h;omega⟩
     · have hkz:¬(i:Int)<(k:Int):=by omega
       go_wp2
       (try simp only[Exit.inBlock,Exit.then]);refine bodyPost_ret (results_none rfl _ _ _) rfl ?_
       refine⟨rfl,Q1++x::Q2,?_,?_⟩
       · have:=insert_right lessB_sto (y:=x) (a:=Q1) (b:=Q2) (by rw[←HQQ.out];exact HQ.out) HQ1.out HQ2.out
         rw[HQQ.out];exact this
       · have h1:=H2.out.1
         have hU:U=[]:=List.eq_nil_of_length_eq_zero (by have:=H2.out.2;omega);have h:=S1.out;rw[hU]at h h1;simp at h1;rw[h1];simpa using h
end
section
open Go.RowKit Go.Shelf Go.Lib Go.Sort Pm
set_option maxRecDepth 1000000
attribute [local go_sem ↓] exec_load_P exec_store_P
theorem aside{p:Prop}(h:p):Aside p:=h
def SymAt(blk off n cap:Nat)(w0:World)(N:Nat):Prop:=
 ∀(w:World) (A L Q B:List Pr),SWK encP 2 w0 blk off (A++(L++(Q++B))).toArray w→(A++(L++(Q++B))).length=n→Up zAa L→Up zAa Q→0<L.length→0<Q.length→L.length+Q.length≤N→∀(a m b:Nat),a=A.length→m=a+L.length→b=m+Q.length →
  Calls Tryz.prog 181 #[.slice (some ⟨blk,off,none⟩) n cap,.int .i64 a,.int .i64 m,.int .i64 b,.func (.func 136) #[] #[]] w fun e w'=>e = .returned (.tuple #[])∧∃X,Stably zAa (L++Q) X∧SWK encP 2 w0 blk off (A++(X++B)).toArray w'
theorem turn_at(A L Q B:List Pr)(hL:Up zAa L)(hQ:Up zAa Q)(a m b s e:Nat)(ha:a=A.length)(hm:m=a+L.length)(hb:b=m+Q.length)(h1:a≤s)(h2:s≤m)(h3:m≤e)(h4:e≤b)
 (hc1:s=a∨e=b∨zAa (A++(L++(Q++B))).toArray[e]!.1 (A++(L++(Q++B))).toArray[s-1]!.1=false) (hc2:s=m∨e=m∨zAa (A++(L++(Q++B))).toArray[e-1]!.1 (A++(L++(Q++B))).toArray[s]!.1=true):
 ∃L1 L2 Q1 Q2,L=L1++L2∧Q=Q1++Q2∧a+L1.length=s∧m+Q1.length=e∧(∀u∈L1,∀v∈Q2,zAa v.1 u.1=false)∧(∀u∈Q1,∀v∈L2,zAa u.1 v.1=true):=by
 obtain⟨L1,L2,g1,g2,g3,g4⟩:=part_at A L (Q++B) s (by omega) (by omega);obtain⟨Q1,Q2,k1,k2,k3,k4⟩:=part_at (A++L) Q B e (by simp;omega) (by simp;omega);rw[show A++L++(Q++B)=A++(L++(Q++B))by simp]at k3 k4;have k2':m+Q1.length=e:=by simp at k2;omega
 have gl:L1.length+L2.length=L.length:=by rw[g1];simp
 have kl:Q1.length+Q2.length=Q.length:=by rw[k1];simp
 refine⟨L1,L2,Q1,Q2,g1,k1,by omega,k2',?_,?_⟩
 · rcases Nat.eq_zero_or_pos L1.length with z|z
   · rw[List.eq_nil_of_length_eq_zero z];intro u hu;cases hu
   rcases Nat.eq_zero_or_pos Q2.length with y|y
   · rw[List.eq_nil_of_length_eq_zero y];intro u _ v hv;cases hv
   obtain⟨p,u,e1,e2⟩:=g3 z;obtain⟨v,q,f1,f2⟩:=k4 y;rw[e2,f2]at hc1;have hlt:=(hc1.resolve_left (by omega)).resolve_left (by omega);rw[e1,f1];rw[g1,e1]at hL;rw[k1,f1]at hQ;exact up_le lessB_sto (up_left hL) (up_right hQ) hlt
 · rcases Nat.eq_zero_or_pos Q1.length with z|z
   · rw[List.eq_nil_of_length_eq_zero z];intro u hu;cases hu
   rcases Nat.eq_zero_or_pos L2.length with y|y
   · rw[List.eq_nil_of_length_eq_zero y];intro u _ v hv;cases hv
   obtain⟨p,u,e1,e2⟩:=k3 z;obtain⟨v,q,f1,f2⟩:=g4 y;rw[e2,f2]at hc2;have hlt:=(hc2.resolve_left (by omega)).resolve_left (by omega);rw[e1,f1];rw[g1,f1]at hL;rw[k1,e1]at hQ;exact up_lt lessB_sto (up_left hQ) (up_right hL) hlt
theorem half_ok{L1 Q1:List Pr}(hL:Up zAa L1)(hQ:Up zAa Q1)(h:¬(0<L1.length∧0<Q1.length)):Stably zAa (L1++Q1) (L1++Q1):=by
 refine Stably.self ?_;rcases Nat.eq_zero_or_pos L1.length with z|z
 · rw[List.eq_nil_of_length_eq_zero z];exact hQ
 rcases Nat.eq_zero_or_pos Q1.length with y|y
 · rw[List.eq_nil_of_length_eq_zero y];simpa using hL
 · exact absurd ⟨z,y⟩ h
set_option maxHeartbeats 16000000 in
theorem symMerge_any(blk off n cap:Nat)(w0:World)(R:RowP w0 blk off n):∀N,SymAt blk off n cap w0 N:=by
 intro N
 induction N with
 |zero=>intro w A L Q B _ _ _ _ h0 _ hN;omega
 |succ N ih=>
  intro w A L Q B S hn hL hQ h0 h1 hN a m b ha hm hb;by_cases hl1:L.length=1
  · obtain⟨x,rfl⟩:∃x,L=[x]:=by
     match L,hl1 with
     |[x],_=>exact⟨x,rfl⟩
    exact symMerge_one blk off n cap w0 w R A Q B x S hn hQ a m b ha hm hb
  by_cases hq1:Q.length=1
  · obtain⟨x,rfl⟩:∃x,Q=[x]:=by
     match Q,hq1 with
     |[x],_=>exact⟨x,rfl⟩
    exact symMerge_two blk off n cap w0 w R A L B x S hn hL hl1 a m b ha hm hb
  have hbig:=R.big;have mixed:=zAo;have eg:∀args w,(callFunc 136 args).run Tryz.prog w = .ok (.enter 136 args) w:=enters_of Tryz.func136 (by kernel_rfl) rfl;have hn':A.length+(L.length+(Q.length+B.length))=n:=by simpa using hn
  obtain⟨dl,hdl⟩:∃dl,m-a=dl:=⟨_,rfl⟩;obtain⟨dq,hdq⟩:∃dq,b-m=dq:=⟨_,rfl⟩;have ema:(m:Int)-(a:Int)=(dl:Int):=by omega
  have ema1:((dl:Int)==1)=false:=beq_eq_false_iff_ne.2 (by omega);have ebm:(b:Int)-(m:Int)=(dq:Int):=by omega
  have ebm1:((dq:Int)==1)=false:=beq_eq_false_iff_ne.2 (by omega);obtain⟨mid,hmid⟩:∃mid,mid=(a+b)/2:=⟨_,rfl⟩;have emid:((a:Int)+(b:Int))/2=(mid:Int):=by omega
  obtain⟨nn,hnn⟩:∃nn,nn=mid+m:=⟨_,rfl⟩;have enn:(mid:Int)+(m:Int)=(nn:Int):=by omega
  obtain⟨p,hp⟩:∃p,p+1=nn:=⟨nn-1,by omega⟩;have ep:(nn:Int)-1=(p:Int):=by omega
  obtain⟨st0,r0,hst⟩:∃st0 r0,(mid<m∧st0+b=nn∧r0=mid)∨(m≤mid∧st0=a∧r0=m):=by
   by_cases h:mid<m
   · exact⟨nn-b,mid,.inl ⟨h,by omega,rfl⟩⟩
   · exact⟨a,m,.inr ⟨by omega,rfl,rfl⟩⟩
  have hsr:st0≤r0:=by omega
  have hast:a≤st0:=by omega
  have hrm:r0≤m:=by omega
  have hrmid:r0≤mid:=by omega
  have hstp:nn≤st0+b:=by omega
  have hbn:b≤n:=by omega
  have hrp:r0≤p+1-m:=by omega
  have IH:Hid (SymAt blk off n cap w0 N∧SymAt blk off n cap w0 N):=⟨ih,ih⟩;have S0:Aside (SWK encP 2 w0 blk off (A++(L++(Q++B))).toArray w):=S;have HLEN:Hid ((A++(L++(Q++B))).length=n):=hn;have HUP:Hid (Up zAa L∧Up zAa Q):=⟨hL,hQ⟩;have HAA:Hid (a=A.length):=ha;have HMB:Hid (m=a+L.length∧b=m+Q.length):=⟨hm,hb⟩;have HLN0:Hid (nn=mid+m∧p+1=nn):=⟨hnn,hp⟩;have HN1:Hid (L.length+Q.length≤N+1∧a<mid∧mid<b):=⟨hN,by omega,by omega⟩;have HST:Hid ((mid<m∧st0+b=nn∧r0=mid)∨(m≤mid∧st0=a∧r0=m)):=hst;have HL:Hid ((A++(L++(Q++B))).toArray.size=n):=by show _=_;simpa using hn
  obtain⟨d,hd⟩:∃d:Array Pr,(A++(L++(Q++B))).toArray=d:=⟨_,rfl⟩;have HD:Hid ((A++(L++(Q++B))).toArray=d):=hd;rw[hd]at S0 HL;have hpm:m≤p+1:=by omega
  clear S hn hn' hL hQ h0 h1 hN ha hm hb hd hl1 hq1 hdl hdq hnn hp ih hmid hst;go_enter Tryz.func181,Tryz.ntmps181
  go_upto_if 140 with fail
  go_cut [20,21]from 138 (fun s20 s21 wc=>s20 = .int .i64 st0∧s21 = .int .i64 r0∧wc=w)
  case first=>
   by_cases hcase:mid<m
   · have hcz:(mid:Int)<(m:Int):=by omega
     (have est:(nn:Int)-(b:Int)=(st0:Int):=by have:=HST.out;have:=HLN0.out;omega);(have erz:Hid (r0=mid):=by show _=_;have:=HST.out;omega);go_wp2
     go_meet
     exact⟨rfl,by rw[erz.out],rfl⟩
   · have hcz:¬(mid:Int)<(m:Int):=by omega
     (have esa:Hid (st0=a):=by show _=_;have:=HST.out;omega);(have erm:Hid (r0=m):=by show _=_;have:=HST.out;omega);go_wp2
     go_meet
     exact⟨by rw[esa.out],by rw[erm.out],rfl⟩
  case rest=>
  obtain⟨rfl,rfl,rfl⟩:=hcut;go_wp2
  go_loopg [20,21] (r0-st0) (fun g s20 s21 wr=>∃(s r:Nat),s20 = .int .i64 s∧s21 = .int .i64 r∧st0≤s∧s≤r∧r≤r0∧r-s≤g∧Aside (SWK encP 2 w0 blk off d wr)∧Hid ((s=st0∨zAa d[p-(s-1)]!.1 d[s-1]!.1=false)∧(r=r0∨zAa d[p-r]!.1 d[r]!.1=true)))
  case atStart=>exact⟨st0,r0,rfl,rfl,Nat.le_refl _,hsr,Nat.le_refl _,Nat.le_refl _,S0,.inl rfl,.inl rfl⟩
  case round=>
   clear S0;obtain⟨s,r,rfl,rfl,hss,hsr2,hrr,hg,S1,H⟩:=hrel;by_cases hlt:s<r
   · have hltz:(s:Int)<(r:Int):=by omega
     obtain⟨c,hc⟩:∃c,c=(s+r)/2:=⟨_,rfl⟩;(have ecz:((s:Int)+(r:Int))/2=(c:Int):=by omega);(have hsc:s≤c:=by omega);(have hcr:c<r:=by omega);clear hc;obtain⟨pc,hpc⟩:∃pc,pc+c=p:=⟨p-c,by omega⟩;(have epc:(p:Int)-(c:Int)=(pc:Int):=by omega);(have hpn:pc<n:=by have:=HLN0.out;omega);(have HPC:Hid (p-c=pc):=by show _=_;omega);clear hpc;(have rc:IntKind.i64.wrap (c:Int)=(c:Int):=by rw[IntKind.wrap_i64];omega);(have pcc:(0:Int)≤(c:Int):=by omega);(have bc:(c:Int)<(n:Int):=by omega);(have ec:(c:Int).toNat=c:=by omega);(have rp:IntKind.i64.wrap (pc:Int)=(pc:Int):=by rw[IntKind.wrap_i64];omega);(have ppc:(0:Int)≤(pc:Int):=by omega);(have bpc:(pc:Int)<(n:Int):=by omega);(have epc2:(pc:Int).toNat=pc:=by omega);have lc:=R.ld S1.out HL.out c (by omega);have lp:=R.ld S1.out HL.out pc hpn;obtain⟨y,hy⟩:∃y,d[pc]! = y:=⟨_,rfl⟩;obtain⟨x,hx⟩:∃x,d[c]! = x:=⟨_,rfl⟩;rw[hy]at lp;rw[hx]at lc;have HY:Hid (d[pc]! = y):=hy;have HX:Hid (d[c]! = x):=hx;clear hy hx;have hcm:=RowP.cmp S1.out y x;cases hv:zAa y.1 x.1
     · have hv1:¬cfP y x<0:=not_lt_of_cf hv
       have hv2:decide (cfP y x<0)=false:=decide_eq_false hv1;have HV:Hid (zAa y.1 x.1=false):=hv;clear hv;go_wp2_with fail
       go_quiet_grown (first|(go_at_fn 136;refine Calls.grown_of (hcm _ _))|(go_at_call 136;refine Calls.grown_of (hcm _ _)))
       have S2:Aside (SWK encP 2 w0 blk off d (grow (wr.drewN nq) osq)):=S1.out.grown nq osq;clear lc lp hcm S1;generalize grow (wr.drewN nq) osq=w2 at S2 ⊢;go_wp2;go_roundg (r-(c+1));(case measure=>omega);case rel=>exact⟨c+1,r,by go_num,rfl,by omega,by omega,hrr,Nat.le_refl _,S2,.inr (by rw[Nat.add_sub_cancel,HPC.out,HY.out,HX.out];exact HV.out),H.out.2⟩
     · have hv1:cfP y x<0:=lt_of_cf hv
       have hv2:decide (cfP y x<0)=true:=decide_eq_true hv1;have HV:Hid (zAa y.1 x.1=true):=hv;clear hv;go_wp2_with fail
       go_quiet_grown (first|(go_at_fn 136;refine Calls.grown_of (hcm _ _))|(go_at_call 136;refine Calls.grown_of (hcm _ _)))
       have S2:Aside (SWK encP 2 w0 blk off d (grow (wr.drewN nq) osq)):=S1.out.grown nq osq;clear lc lp hcm S1;generalize grow (wr.drewN nq) osq=w2 at S2 ⊢;go_wp2;go_roundg (c-s);(case measure=>omega);case rel=>exact⟨s,c,rfl,rfl,hss,hsc,by omega,Nat.le_refl _,S2,H.out.1,.inr (by rw[HPC.out,HY.out,HX.out];exact HV.out)⟩
   · have hltz:¬(s:Int)<(r:Int):=by omega
     (obtain rfl:s=r:=by omega);obtain⟨en,hen⟩:∃en,en+s=nn:=⟨nn-s,by have:=HLN0.out;omega⟩;(have een:(nn:Int)-(s:Int)=(en:Int):=by omega);(have hm1:m≤en:=by have:=HLN0.out;omega);have hm2:en≤b:=by omega
     have hcut:=turn_at A L Q B HUP.out.1 HUP.out.2 a m b s en HAA.out HMB.out.1 HMB.out.2 (by omega) (by omega) hm1 hm2
      (by
       rw[HD.out];by_cases e:s=st0
       · have:=HST.out;omega
       · have h:=H.out.1.resolve_left e
         rw[show p-(s-1)=en by have:=HLN0.out;omega]at h;exact .inr (.inr h))
      (by
       rw[HD.out];by_cases e:s=r0
       · have:=HST.out;have:=HLN0.out;omega
       · have h:=H.out.2.resolve_left e
         rw[show p-s=en-1 by have:=HLN0.out;omega]at h;exact .inr (.inr h))
     obtain⟨L1,L2,Q1,Q2,eL,eQ,l1,l2,g1,g2⟩:=hcut;(have HUL:Hid (Up zAa (L1++L2)∧Up zAa (Q1++Q2)):=by have h:=HUP.out;rw[eL,eQ]at h;exact h);have HLN:Hid (a+L1.length=s∧m+Q1.length=en∧m=s+L2.length∧b=en+Q2.length∧en+s=mid+m∧A.length+(L1.length+(L2.length+(Q1.length+(Q2.length+B.length))))=n∧a=A.length∧a<mid∧mid<b∧b-a≤N+1):=by
      have h1:=HMB.out;have h2:=HLEN.out;have h3:=HLN0.out;have h4:=HN1.out;have h5:=HAA.out;rw[eL,eQ]at h1 h2 h4;show _∧_;simp at h1 h2 h4;omega
     have HF:Hid (∀X Y,Stably zAa (L1++Q1) X→Stably zAa (L2++Q2) Y→Stably zAa (L++Q) (X++Y)):=fun X Y h1 h2=>by
      rw[eL,eQ];exact turned lessB_sto HUL.out.1 HUL.out.2 g1 g2 h1 h2
     have S2:Aside (SWK encP 2 w0 blk off (A++(L1++(L2++(Q1++(Q2++B))))).toArray wr):=by
      have h:=S1.out;rw[←HD.out,eL,eQ]at h;exact aside (by simpa using h)
     clear S1 eL eQ l1 l2 g1 g2 H HD HL hen;go_upto_region 39 with fail
     go_cut [24,185]from 178 (fun s24 s185 wc=>s24 = .int .i64 en∧s185 = .bool (decide (s<m∧m<en))∧wc=wr)
     case first=>
      by_cases hr1:s<m
      · have hr1z:(s:Int)<(m:Int):=by omega
        by_cases hr2:m<en
        · have hr2z:(m:Int)<(en:Int):=by omega
          go_wp2
          go_meet
          exact⟨rfl,by rw[decide_eq_true (⟨hr1,hr2⟩:s<m∧m<en)],rfl⟩
        · have hr2z:¬(m:Int)<(en:Int):=by omega
          go_wp2
          go_meet
          exact⟨rfl,by rw[decide_eq_false (fun h=>hr2 h.2:¬(s<m∧m<en))],rfl⟩
      · have hr1z:¬(s:Int)<(m:Int):=by omega
        go_wp2
        go_meet
        exact⟨rfl,by rw[decide_eq_false (fun h=>hr1 h.1:¬(s<m∧m<en))],rfl⟩
     case rest=>
     obtain⟨rfl,rfl,rfl⟩:=hcut
     go_upto_if 185 with fail
     go_cut [24]from 178 (fun s24 wd=>s24 = .int .i64 en∧Aside (SWK encP 2 w0 blk off (A++(L1++(Q1++(L2++(Q2++B))))).toArray wd))
     case first=>
      by_cases hr:s<m∧m<en
      · have hc:=rotate_any blk off n cap w0 _ R (A++L1) L2 Q1 (Q2++B) (by have h:=S2.out;simpa using h) (by have:=HLN.out;simp;omega) (by have:=HLN.out;omega) (by have:=HLN.out;omega) s m en (by have:=HLN.out;simp;omega) (by have:=HLN.out;simp;omega) (by have:=HLN.out;simp;omega)
        rw[decide_eq_true hr];go_wp2_with (go_at_call 196;refine hc.mono ?_;rintro e w4 ⟨rfl,S3⟩)
        go_meet
        exact⟨rfl,aside (by have h:=S3;simpa using h)⟩
      · rw[decide_eq_false hr]
        go_wp2
        go_meet
        by_cases hr1:s<m
        · have e1:Q1=[]:=List.eq_nil_of_length_eq_zero (by have:=HLN.out;omega)
          exact⟨rfl,aside (by have h:=S2.out;rw[e1]at h ⊢;simpa using h)⟩
        · have e1:L2=[]:=List.eq_nil_of_length_eq_zero (by have:=HLN.out;omega)
          exact⟨rfl,aside (by have h:=S2.out;rw[e1]at h ⊢;simpa using h)⟩
     case rest=>
     obtain⟨rfl,S3⟩:=hcut;clear S2;go_upto_region 41 with fail
     go_cut [24,199]from 178 (fun s24 s199 we=>s24 = .int .i64 en∧s199 = .bool (decide (a<s∧s<mid))∧Aside (SWK encP 2 w0 blk off (A++(L1++(Q1++(L2++(Q2++B))))).toArray we))
     case first=>
      by_cases hr1:a<s
      · have hr1z:(a:Int)<(s:Int):=by omega
        by_cases hr2:s<mid
        · have hr2z:(s:Int)<(mid:Int):=by omega
          go_wp2
          go_meet
          exact⟨rfl,by rw[decide_eq_true (⟨hr1,hr2⟩:a<s∧s<mid)],S3⟩
        · have hr2z:¬(s:Int)<(mid:Int):=by omega
          go_wp2
          go_meet
          exact⟨rfl,by rw[decide_eq_false (fun h=>hr2 h.2:¬(a<s∧s<mid))],S3⟩
      · have hr1z:¬(a:Int)<(s:Int):=by omega
        go_wp2
        go_meet
        exact⟨rfl,by rw[decide_eq_false (fun h=>hr1 h.1:¬(a<s∧s<mid))],S3⟩
     case rest=>
     clear S3;obtain⟨rfl,rfl,S3⟩:=hcut
     go_upto_if 199 with fail
     go_cut [24]from 178 (fun s24 wd=>s24 = .int .i64 en∧∃X,Hid (Stably zAa (L1++Q1) X)∧Aside (SWK encP 2 w0 blk off ((A++X)++(L2++(Q2++B))).toArray wd))
     case first=>
      by_cases hr:a<s∧s<mid
      · have hc:=IH.out.1 _ A L1 Q1 (L2++(Q2++B)) S3.out (by have:=HLN.out;simp;omega) (up_left HUL.out.1) (up_left HUL.out.2) (by have:=HLN.out;omega) (by have:=HLN.out;omega) (by have:=HLN.out;omega) a s mid HAA.out (by have:=HLN.out;omega) (by have:=HLN.out;omega)
        rw[decide_eq_true hr];go_wp2_with (go_at_call 181;refine hc.mono ?_;rintro e w4 ⟨rfl,X,hX,S4⟩)
        go_meet
        exact⟨rfl,X,hX,aside (by have h:=S4;simpa using h)⟩
      · rw[decide_eq_false hr]
        go_wp2
        go_meet
        exact⟨rfl,L1++Q1,half_ok (up_left HUL.out.1) (up_left HUL.out.2) (by have:=HLN.out;omega),aside (by have h:=S3.out;simpa using h)⟩
     case rest=>
     obtain⟨rfl,X,HX,S4⟩:=hcut;clear S3;(have HXL:Hid (X.length=L1.length+Q1.length):=by show _=_;have:=HX.out.len;simpa using this);by_cases hr1:mid<en
     · have hr1z:(mid:Int)<(en:Int):=by omega
       by_cases hr2:en<b
       · have hr2z:(en:Int)<(b:Int):=by omega
         have hc:=IH.out.1 _ (A++X) L2 Q2 B S4.out (by have:=HLN.out;have:=HXL.out;simp;omega) (up_right HUL.out.1) (up_right HUL.out.2) (by have:=HLN.out;omega) (by have:=HLN.out;omega) (by have:=HLN.out;omega) mid en b (by have:=HLN.out;have:=HXL.out;simp;omega) (by have:=HLN.out;omega) (by have:=HLN.out;omega);go_wp2_with (go_at_call 181;refine hc.mono ?_;rintro e w4 ⟨rfl,Y,hY,S5⟩)
         go_end0
         exact⟨rfl,X++Y,HF.out X Y HX.out hY,by have h:=S5;simpa using h⟩
       · have hr2z:¬(en:Int)<(b:Int):=by omega
         go_wp2
         go_end0
         exact⟨rfl,X++(L2++Q2),HF.out X _ HX.out (half_ok (up_right HUL.out.1) (up_right HUL.out.2) (by have:=HLN.out;omega)),by have h:=S4.out;simpa using h⟩
     · have hr1z:¬(mid:Int)<(en:Int):=by omega
       go_wp2
       go_end0
       exact⟨rfl,X++(L2++Q2),HF.out X _ HX.out (half_ok (up_right HUL.out.1) (up_right HUL.out.2) (by have:=HLN.out;omega)),by have h:=S4.out;simpa using h⟩
end
section
open Go.RowKit Go.Shelf Go.Lib Go.Sort Pm
set_option maxRecDepth 1000000
shelf_lay_g SlLaysF0.n20 Slsf 20 at Tryz 180 as insP
theorem insertion_any(blk off n cap:Nat)(w0 w:World)(R:RowP w0 blk off n)(A X B:List Pr)(S:SWK encP 2 w0 blk off (A++(X++B)).toArray w)(hn:(A++(X++B)).length=n)(a b:Nat)(ha:a=A.length)(hb:b=A.length+X.length):
 Calls Tryz.prog 180 #[.slice (some ⟨blk,off,none⟩) n cap,.int .i64 a,.int .i64 b,.func (.func 136) #[] #[]] w fun e w'=>e = .returned (.tuple #[])∧∃X',Stably zAa X X'∧SWK encP 2 w0 blk off (A++(X'++B)).toArray w':=by
 have eg:∀args w,(callFunc 136 args).run Tryz.prog w = .ok (.enter 136 args) w:=enters_of Tryz.func136 (by kernel_rfl) rfl;have hs:(A++(X++B)).toArray.size=n:=by simpa using hn
 obtain⟨⟨d0,e0,K⟩,hbig⟩:=R;have H:=(⟨⟨d0,e0,K⟩,hbig⟩:RowP w0 blk off n).holds S hs;have hc:=AnyQ.insertionSortCmpFunc insP 2 Tryz.isAgg64 Tryz.sizeOf64 encP encP_k encP_one cfP 136 #[] blk off cap a b (A++(X++B)).toArray w eg (byWord_lays blk off _ w) H (S.lt K.hblk) (by omega) (by simp;omega) (by rw[hs];exact hbig);rw[hs]at hc;refine hc.mono ?_;rintro e w' ⟨rfl,q,os,rfl⟩;refine⟨rfl,?_⟩;obtain⟨X',e1,e2⟩:=ins_list lessB_sto A X B;rw[cfP_ltf,ha,hb,e1];refine⟨X',e2,S.on K.hblk q _ os ?_⟩;have:=e2.len;simp;omega
structure Blk(s:Nat)(C:List (List Pr))(Z:List Pr):Prop where
 all:∀c∈C,c.length=s∧Up zAa c
 up:Up zAa Z
 lt:Z.length<s
theorem flat_len6{s:Nat}:∀{C:List (List Pr)},(∀c∈C,c.length=s∧Up zAa c)→C.flatten.length=s*C.length
 |[],_=>by simp
 |c::C,h=>by
  have h1:=(h c (List.mem_cons_self ..)).1;have h2:=flat_len6 (C:=C) fun x hx=>h x (List.mem_cons_of_mem _ hx)
  rw[List.flatten_cons,List.length_append,h1,h2,List.length_cons,Nat.mul_add];omega
theorem blk_done{s n:Nat}{C:List (List Pr)}{Z:List Pr}(h:Blk s C Z)(hs:0<s)(hn:(C.flatten++Z).length=n)(hns:n≤s):Up zAa (C.flatten++Z):=by
 have h1:=flat_len6 h.all;rw[List.length_append,h1]at hn
 match C,h,hn with
 |[],h,_=>simpa using h.up
 |[c],h,hn=>
  have:Z=[]:=List.eq_nil_of_length_eq_zero (by simp at hn;omega);subst this;simpa using(h.all c (List.mem_cons_self ..)).2
 |c::d::C,h,hn=>
  exfalso;rw[List.length_cons,List.length_cons]at hn;have:s*(C.length+1+1)=s*C.length+s+s:=by rw[Nat.mul_add,Nat.mul_add];omega
  omega
theorem of_same_mid{A X X' B:List Pr}(h:Stably zAa X X')(k:ByteArray):Pm.of k (A++(X'++B))=Pm.of k (A++(X++B)):=by
 rw[of_append,of_append,of_append,of_append,h.2]
end
section
open Go.RowKit Go.Shelf Go.Lib Go.Sort Pm
set_option maxRecDepth 1000000
set_option maxHeartbeats 1500000 in
theorem stable_any(blk off n cap:Nat)(w0 w:World)(R:RowP w0 blk off n)(hn50:n<1125899906842624)(l0:List Pr)(S:SWK encP 2 w0 blk off l0.toArray w)(hn:l0.length=n):
 Calls Tryz.prog 165 #[.slice (some ⟨blk,off,none⟩) n cap,.int .i64 n,.func (.func 136) #[] #[]] w fun e w'=>e = .returned (.tuple #[])∧∃l',Stably zAa l0 l'∧SWK encP 2 w0 blk off l'.toArray w':=by
 have S0:Aside (SWK encP 2 w0 blk off l0.toArray w):=S;have HN:Hid (l0.length=n):=hn;clear S hn;go_enter Tryz.func165,Tryz.ntmps165;go_wp2
 go_loopg [7,8] n (fun g s7 s8 wr=>∃(a:Nat) (C:List (List Pr)) (Z:List Pr),s7 = .int .i64 a∧s8 = .int .i64 ((a+20:Nat):Int)∧a≤n∧n-a≤g∧Aside (SWK encP 2 w0 blk off (C.flatten++Z).toArray wr)∧Hid ((∀c∈C,c.length=20∧Up zAa c)∧C.flatten.length=a∧(C.flatten++Z).length=n∧∀k,Pm.of k (C.flatten++Z)=Pm.of k l0))
 case atStart=>exact⟨0,[],l0,rfl,by go_num,Nat.zero_le _,by omega,S0,(show Hid _ from⟨fun c hc=>absurd hc (List.not_mem_nil),rfl,HN.out,fun _=>rfl⟩)⟩
 case round=>
  clear S0;obtain⟨a,C,Z,rfl,rfl,han,hg,S1,H⟩:=hrel;by_cases hle:a+20≤n
  · have hlez:((a+20:Nat):Int)≤(n:Int):=by omega
    obtain⟨Z1,Z2,hZ,hZ1⟩:=zDy Z 20 (by have h:=H.out.2.2.1;rw[List.length_append,H.out.2.1]at h;omega);have HZ:Hid (Z=Z1++Z2∧Z1.length=20):=⟨hZ,hZ1⟩;have hc:=insertion_any blk off n cap w0 wr R C.flatten Z1 Z2 (by have h:=S1.out;rw[hZ]at h;exact h) (by have h:=H.out.2.2.1;rw[hZ]at h;exact h) a (a+20) H.out.2.1.symm (by rw[H.out.2.1,hZ1]);(have eb:((a+20:Nat):Int)+20=((a+20+20:Nat):Int):=by omega);clear hZ hZ1 S1;go_wp2_with (go_at_call 180;refine hc.mono ?_;rintro e w2 ⟨rfl,X,hX,S2⟩);have HX:Hid (Stably zAa Z1 X):=hX;have S3:Aside (SWK encP 2 w0 blk off ((C++[X]).flatten++Z2).toArray w2):=aside (by have h:=S2;simpa using h);clear hX S2;go_roundg (n-(a+20));case measure=>omega
    case rel=>
     refine⟨a+20,C++[X],Z2,by first|rfl|go_num,by first|rfl|go_num|rw[←eb],hle,Nat.le_refl _,S3,?_,?_,?_,?_⟩
     · intro c hcm
       rcases List.mem_append.1 hcm with h|h
       · exact H.out.1 c h
       · rw[List.mem_singleton.1 h]
         exact⟨by rw[HX.out.len,HZ.out.2],HX.out.1⟩
     · have h1:=H.out.2.1
       have h2:=HX.out.len;have h3:=HZ.out.2;simp at h1 ⊢;omega
     · have h1:=H.out.2.2.1
       have h2:=HX.out.len;rw[HZ.out.1]at h1;simp at h1 ⊢;omega
     · intro k
       rw[←H.out.2.2.2 k,HZ.out.1,←of_same_mid HX.out k];simp
  · have hlez:¬((a+20:Nat):Int)≤(n:Int):=by omega
    have hc:=insertion_any blk off n cap w0 wr R C.flatten Z [] (by have h:=S1.out;simpa using h) (by have h:=H.out.2.2.1;simpa using h) a n H.out.2.1.symm (by have h:=H.out.2.2.1;rw[List.length_append]at h;omega);clear S1;go_wp2_with (go_at_call 180;refine hc.mono ?_;rintro e w2 ⟨rfl,X,hX,S2⟩);have S3:Aside (SWK encP 2 w0 blk off (C.flatten++X).toArray w2):=aside (by have h:=S2;simpa using h);have H2:Hid (Blk 20 C X∧(C.flatten++X).length=n∧∀k,Pm.of k (C.flatten++X)=Pm.of k l0):=by
     have h1:=H.out;have h2:=hX.len;have h3:=h1.2.2.1;rw[List.length_append]at h3;refine⟨⟨h1.1,hX.1,by omega⟩,by rw[List.length_append];omega,fun k=>?_⟩;rw[←h1.2.2.2 k,of_append,of_append,hX.2]
    clear hX S2 H hc
    go_loopg [6,7,8,9] n (fun g s6 _ _ _ wr=>∃(s:Nat) (C:List (List Pr)) (Z:List Pr),s6 = .int .i64 s∧0<s∧s≤n+n+20∧n-s≤g∧Aside (SWK encP 2 w0 blk off (C.flatten++Z).toArray wr)∧Hid (Blk s C Z∧(C.flatten++Z).length=n∧∀k,Pm.of k (C.flatten++Z)=Pm.of k l0))
    case atStart=>exact⟨20,C,X,rfl,by omega,by omega,by omega,S3,H2.out⟩
    case round=>
     clear S3 H2;obtain⟨s,C,Z,rfl,hs0,hsn,hg2,S1,H⟩:=hrel;by_cases hlt:s<n
     · have hltz:(s:Int)<(n:Int):=by omega
       obtain⟨t,ht⟩:∃t,t=2*s:=⟨_,rfl⟩;(have e2s:2*(s:Int)=(t:Int):=by omega);(have es2:(s:Int)*2=(t:Int):=by omega);(have HT:Hid (t=s+s):=by show _=_;omega);clear ht;(have htb:t≤n+n:=by have:=HT.out;omega);go_wp2
       go_loopg [7,8] n (fun g s7 s8 wr=>∃(a:Nat) (D E:List (List Pr)),s7 = .int .i64 a∧s8 = .int .i64 ((a+t:Nat):Int)∧a≤n∧n-a≤g∧Aside (SWK encP 2 w0 blk off (D.flatten++(E.flatten++Z)).toArray wr)∧Hid ((∀c∈D,c.length=t∧Up zAa c)∧Blk s E Z∧D.flatten.length=a∧(D.flatten++(E.flatten++Z)).length=n∧∀k,Pm.of k (D.flatten++(E.flatten++Z))=Pm.of k l0))
       case atStart=>exact⟨0,[],C,rfl,by go_num,Nat.zero_le _,by(have:=HT.out;omega),S1,(show Hid _ from⟨fun c hc=>absurd hc (List.not_mem_nil),H.out.1,rfl,H.out.2.1,H.out.2.2⟩)⟩
       case round=>
        clear S1 H;obtain⟨a,D,E,rfl,rfl,han,hg3,S1,H⟩:=hrel;obtain⟨am,has⟩:∃am,am=a+s:=⟨_,rfl⟩;(have eas:(a:Int)+(s:Int)=(am:Int):=by(have:=HT.out;omega));have HAS:Hid (am=a+s):=has;clear has;have hlen:Hid (a+(s*E.length+Z.length)=n):=by
         have h1:=H.out.2.2.2.1;rw[List.length_append,H.out.2.2.1,List.length_append,flat_len6 H.out.2.1.all]at h1;exact h1
        by_cases hle2:a+t≤n
        · have hle2z:((a+t:Nat):Int)≤(n:Int):=by(have:=HT.out;omega)
          obtain⟨c1,c2,E',hE⟩:∃c1 c2 E',E=c1::c2::E':=by
           have h1:=hlen.out;have h2:=H.out.2.1.lt
           match E,h1 with
           |[],h1=>simp at h1;(have:=HT.out;omega)
           |[c],h1=>simp at h1;(have:=HT.out;omega)
           |c1::c2::E',_=>exact⟨c1,c2,E',rfl⟩
          have HE:Hid (E=c1::c2::E'):=hE;have hc1:=H.out.2.1.all c1 (by rw[hE];simp);have hc2:=H.out.2.1.all c2 (by rw[hE];simp);have HC:Hid ((c1.length=s∧Up zAa c1)∧(c2.length=s∧Up zAa c2)):=⟨hc1,hc2⟩;have hc:=symMerge_any blk off n cap w0 R (c1.length+c2.length) wr D.flatten c1 c2 (E'.flatten++Z) (by have h:=S1.out;rw[hE]at h;simpa using h) (by have h:=H.out.2.2.2.1;rw[hE]at h;simpa using h) hc1.2 hc2.2 (by(have:=HT.out;omega)) (by(have:=HT.out;omega)) (Nat.le_refl _) a am (a+t) H.out.2.2.1.symm (by have:=HAS.out;(have:=HT.out;omega)) (by have:=HAS.out;(have:=HT.out;omega));(have eb:((a+t:Nat):Int)+((t:Nat):Int)=((a+t+t:Nat):Int):=by(have:=HT.out;omega));clear hE hc1 hc2 S1;go_wp2_with (go_at_call 181;refine hc.mono ?_;rintro e w2 ⟨rfl,X,hX,S2⟩);have HX:Hid (Stably zAa (c1++c2) X):=hX;have S3:Aside (SWK encP 2 w0 blk off ((D++[X]).flatten++(E'.flatten++Z)).toArray w2):=aside (by have h:=S2;simpa using h);clear hX S2;go_roundg (n-(a+t));case measure=>(have:=HT.out;omega)
          case rel=>
           refine⟨a+t,D++[X],E',by first|rfl|go_num,by first|rfl|go_num|rw[←eb],hle2,Nat.le_refl _,S3,?_,?_,?_,?_,?_⟩
           · intro c hcm
             rcases List.mem_append.1 hcm with h|h
             · exact H.out.1 c h
             · rw[List.mem_singleton.1 h]
               have h1:=HX.out.len;have h2:=HC.out;rw[List.length_append]at h1;exact⟨by(have:=HT.out;omega),HX.out.1⟩
           · exact⟨fun c hc=>H.out.2.1.all c (by rw[HE.out];simp[hc]),H.out.2.1.up,H.out.2.1.lt⟩
           · have h1:=H.out.2.2.1
             have h2:=HX.out.len;have h3:=HC.out;simp at h1 h2 ⊢
             (have:=HT.out;omega)
           · have h1:=H.out.2.2.2.1
             have h2:=HX.out.len;rw[HE.out]at h1;simp at h1 h2 ⊢
             (have:=HT.out;omega)
           · intro k
             have h3:=of_same_mid (A:=D.flatten) (B:=E'.flatten++Z) HX.out k;rw[←H.out.2.2.2.2 k,HE.out];simp only[List.flatten_append,List.flatten_cons,List.flatten_nil,List.append_nil,List.append_assoc]at h3 ⊢;exact h3
        · have hle2z:¬((a+t:Nat):Int)≤(n:Int):=by(have:=HT.out;omega)
          by_cases hmn:a+s<n
          · have hmnz:(am:Int)<(n:Int):=by have:=HAS.out;(have:=HT.out;omega)
            obtain⟨c,hE⟩:∃c,E=[c]:=by
             have h1:=hlen.out;have h2:=H.out.2.1.lt
             match E,h1 with
             |[],h1=>simp at h1;(have:=HT.out;omega)
             |[c],h1=>exact⟨c,rfl⟩
             |c1::c2::E',h1=>
              exfalso;rw[List.length_cons,List.length_cons]at h1;have:s*(E'.length+1+1)=s*E'.length+s+s:=by rw[Nat.mul_add,Nat.mul_add];(have:=HT.out;omega)
              (have:=HT.out;omega)
            have HE:Hid (E=[c]):=hE;have hcc:=H.out.2.1.all c (by rw[hE];simp);have HC:Hid (c.length=s∧Up zAa c):=hcc;have hl:=hlen.out;rw[hE]at hl;simp at hl;have hc:=symMerge_any blk off n cap w0 R (c.length+Z.length) wr D.flatten c Z [] (by have h:=S1.out;rw[hE]at h;simpa using h) (by have h:=H.out.2.2.2.1;rw[hE]at h;simpa using h) hcc.2 H.out.2.1.up (by(have:=HT.out;omega)) (by(have:=HT.out;omega)) (Nat.le_refl _) a am n H.out.2.2.1.symm (by have:=HAS.out;(have:=HT.out;omega)) (by have:=HAS.out;(have:=HT.out;omega));clear hE hcc S1 hl;go_wp2_with (go_at_call 181;refine hc.mono ?_;rintro e w2 ⟨rfl,X,hX,S2⟩);have HX:Hid (Stably zAa (c++Z) X):=hX;have S3:Aside (SWK encP 2 w0 blk off (D.flatten++X).toArray w2):=aside (by have h:=S2;simpa using h);clear hX S2;go_roundg (n-t);case measure=>(have:=HT.out;omega)
            case rel=>
             refine⟨t,D,X,by first|rfl|go_num|rw[←es2],by(have:=HT.out;omega),by(have:=HT.out;omega),Nat.le_refl _,S3,⟨H.out.1,HX.out.1,?_⟩,?_,?_⟩
             · have h1:=HX.out.len
               have h2:=HC.out.1;have h3:=H.out.2.1.lt;rw[List.length_append]at h1
               (have:=HT.out;omega)
             · have h1:=H.out.2.2.2.1
               have h2:=HX.out.len;rw[HE.out]at h1;simp at h1 h2 ⊢
               (have:=HT.out;omega)
             · intro k
               rw[←H.out.2.2.2.2 k,HE.out,of_append,HX.out.2,←of_append];simp
          · have hmnz:¬(am:Int)<(n:Int):=by have:=HAS.out;(have:=HT.out;omega)
            have HU:Hid (Up zAa (E.flatten++Z)):=by
             refine blk_done (n:=n-a) H.out.2.1 hs0 ?_ (by(have:=HT.out;omega));have h1:=H.out.2.2.2.1;rw[List.length_append,H.out.2.2.1]at h1
             (have:=HT.out;omega)
            go_wp2;go_roundg (n-t);case measure=>(have:=HT.out;omega)
            case rel=>
             refine⟨t,D,E.flatten++Z,by first|rfl|go_num|rw[←es2],by(have:=HT.out;omega),by(have:=HT.out;omega),Nat.le_refl _,S1,⟨H.out.1,HU.out,?_⟩,H.out.2.2.2.1,H.out.2.2.2.2⟩;have h1:=H.out.2.2.2.1;rw[List.length_append,H.out.2.2.1]at h1
             (have:=HT.out;omega)
     · have hltz:¬(s:Int)<(n:Int):=by omega
       go_wp2
       go_end0
       exact⟨rfl,_,⟨blk_done H.out.1 hs0 H.out.2.1 (by omega),H.out.2.2⟩,S1.out⟩
set_option maxHeartbeats 2000000 in
theorem sortStable_any(blk off n cap:Nat)(w0 w:World)(R:RowP w0 blk off n)(hn50:n<1125899906842624)(l0:List Pr)(S:SWK encP 2 w0 blk off l0.toArray w)(hn:l0.length=n):
 Calls Tryz.prog 135 #[.slice (some ⟨blk,off,none⟩) n cap,.func (.func 136) #[] #[]] w fun e w'=>e = .returned (.tuple #[])∧∃l',Stably zAa l0 l'∧SWK encP 2 w0 blk off l'.toArray w':=by
 have hc:=stable_any blk off n cap w0 w R hn50 l0 S hn;clear S;go_enter Tryz.func135,Tryz.ntmps135;go_wp2_with (go_at_call 165;refine hc.mono ?_;rintro e w2 ⟨rfl,l',h1,h2⟩)
 go_end0
 exact⟨rfl,l',h1,h2⟩
end
section
open Go.RowKit Go.Shelf Go.Lib Go.Sort Pm
theorem belowN{B:Nat}{a w:World}(h:Below B a w)(n:Nat):Below B a (w.drewN n):=⟨h.os,h.tape,h.output,h.size,h.block⟩
def zBo(l:List Pr):List Value:=l.flatMap encP
theorem zBl:∀l:List Pr,(zBo l).length=l.length*2
 |[]=>rfl
 |x::r=>by rw[zBo,List.flatMap_cons,List.length_append,←zBo,zBl r,encP_k,List.length_cons];omega
theorem zF4(a b:List Pr):zBo (a++b)=zBo a++zBo b:=List.flatMap_append ..
theorem zPg(l:List Pr)(x:Pr):zBo (l++[x])=zBo l++encP x:=by rw[zF4];simp[zBo]
theorem zDi:∀(l:List Pr) (i j:Nat) (x:Pr),l[i]?=some x→j<2→(zBo l)[i*2+j]?=(encP x)[j]?
 |y::r,0,j,x,h,hj=>by
  simp only[List.getElem?_cons_zero,Option.some.injEq]at h;subst h;rw[zBo,List.flatMap_cons,List.getElem?_append_left (by rw[encP_k];omega)];simp
 |y::r,i+1,j,x,h,hj=>by
  have ih:=zDi r i j x (by simpa using h) hj;rw[zBo,List.flatMap_cons,List.getElem?_append_right (by rw[encP_k];omega),encP_k];rw[show(i+1)*2+j-2=i*2+j by omega];exact ih
theorem zJ5(l:List Pr):∀v∈zBo l,v.oneCell'=true:=by
 intro v hv;obtain⟨x,_,hx⟩:=List.mem_flatMap.1 hv;exact encP_one x v hx
structure TwoAt(w:World)(g o:Nat)(x:Pr):Prop where
 c0:w.cell? ⟨g,o,none⟩=some (.string x.1)
 c1:w.cell? ⟨g,o+1,none⟩=some (.int .i64 x.2)
theorem TwoAt.below{w w':World}{g o:Nat}{x:Pr}(h:TwoAt w g o x){B:Nat}(hg:g<B)(hb:Below B w w'):TwoAt w' g o x:=
 ⟨(hb.cell (p:=⟨g,o,none⟩) hg).trans h.c0,(hb.cell (p:=⟨g,o+1,none⟩) hg).trans h.c1⟩
theorem TwoAt.lt{w:World}{g o:Nat}{x:Pr}(h:TwoAt w g o x):g<w.heap.size:=zAq h.c0
theorem TwoAt.load{w:World}{g o:Nat}{x:Pr}(h:TwoAt w g o x):loadP Tryz.prog (.pointer (some ⟨g,o,none⟩)) w = .ok (valP x) w:=loadP_at h.c0 h.c1
def PRow(w:World)(v:Value)(l:List Pr):Prop:=
 ∃ad cap,v = .slice ad l.length cap∧(0<l.length→∃g off,ad=some ⟨g,off,none⟩∧g<w.heap.size∧∀i x,l[i]?=some x→TwoAt w g (off+i*2) x)
theorem PRow.at{w:World}{ad:Option Addr}{n cap:Nat}{l:List Pr}(h:PRow w (.slice ad n cap) l)(h0:0<n):∃g off,ad=some ⟨g,off,none⟩∧g<w.heap.size∧∀i x,l[i]?=some x→TwoAt w g (off+i*2) x:=by
 obtain⟨ad',cap',e,hc⟩:=h;simp only[Value.slice.injEq]at e;obtain⟨rfl,h2,rfl⟩:=e;exact hc (by omega)
theorem PRow.nil(w:World):PRow w (.slice none 0 0) []:=⟨none,0,rfl,fun h=>by simp at h⟩
theorem PRow.below{w w':World}{v:Value}{l:List Pr}(h:PRow w v l)(hb:Below w.heap.size w w'):PRow w' v l:=by
 obtain⟨ad,cap,rfl,hc⟩:=h;refine⟨ad,cap,rfl,fun h0=>?_⟩;obtain⟨g,off,rfl,hg,hx⟩:=hc h0;exact⟨g,off,rfl,Nat.lt_of_lt_of_le hg hb.size,fun i x hi=>(hx i x hi).below hg hb⟩
def POwn(B:Nat)(w:World)(v:Value)(l:List Pr):Prop:=w.ownsRow B 64 2 v l.length (zBo l)
theorem POwn.nil(B:Nat)(w:World):POwn B w (.slice none 0 0) []:=World.ownsRow_nil _ _ _ _
theorem POwn.below{B:Nat}{w w':World}{v:Value}{l:List Pr}(h:POwn B w v l)(hb:Below w.heap.size w w'):POwn B w' v l:=by
 obtain⟨hl,hn|⟨g,cap,cur,rfl,h1,hg,h2⟩⟩:=h
 · exact⟨hl,.inl hn⟩
 · exact⟨hl,.inr ⟨g,cap,cur,rfl,h1,(hb.block g (Array.getElem?_eq_some_iff.1 hg).1).trans hg,h2⟩⟩
theorem POwn.mono{B B':Nat}{w:World}{v:Value}{l:List Pr}(h:POwn B w v l)(hB:B'≤B):POwn B' w v l:=by
 obtain⟨hl,hn|⟨g,cap,cur,rfl,h1,h2⟩⟩:=h
 · exact⟨hl,.inl hn⟩
 · exact⟨hl,.inr ⟨g,cap,cur,rfl,by omega,h2⟩⟩
theorem POwn.shape{B:Nat}{w:World}{v:Value}{l:List Pr}(h:POwn B w v l):∃ad cap,v = .slice ad l.length cap:=by
 obtain⟨hl,⟨e,h0⟩|⟨g,cap,cur,rfl,_⟩⟩:=h
 · exact⟨none,0,by rw[e,h0]⟩
 · exact⟨_,cap,rfl⟩
theorem POwn.cells{w:World}{g:Nat}{cur:Array Value}{l:List Pr}(hh:w.heap[g]?=some (.cells cur 64 (0,0)))(h6:cur.toList.take (l.length*2)=zBo l):∀i x,l[i]?=some x→TwoAt w g (0+i*2) x:=by
 intro i x hi;have hil:=(List.getElem?_eq_some_iff.1 hi).1;have cell:∀j,j<2→w.cell? ⟨g,i*2+j,none⟩=(encP x)[j]?:=fun j hj=>by
  have e:=zDi l i j x hi hj;rw[←h6,List.getElem?_take,if_pos (by omega)]at e;simp only[World.cell?,hh];simpa using e
 have c0:=cell 0 (by omega);have c1:=cell 1 (by omega);exact⟨by rw[Nat.zero_add];exact c0,by rw[Nat.zero_add];exact c1⟩
theorem POwn.row{B:Nat}{w:World}{v:Value}{l:List Pr}(h:POwn B w v l):PRow w v l:=by
 obtain⟨hl,⟨e,h0⟩|⟨g,cap,cur,rfl,h1,hh,h3,h4,h5,h6⟩⟩:=h
 · rw[List.eq_nil_of_length_eq_zero h0,e]
   exact PRow.nil w
 · exact⟨some ⟨g,0,none⟩,cap,rfl,fun _=>⟨g,0,rfl,(Array.getElem?_eq_some_iff.1 hh).1,POwn.cells hh h6⟩⟩
theorem POwn.of_cells{B:Nat}{w:World}{g cap:Nat}{cur:Array Value}{l:List Pr}(hB:B≤g)(hh:w.heap[g]?=some (.cells cur 64 (0,0)))(h3:l.length≤cap)(h4:cap≤maxLen)(h5:cur.size=cap*2)(hc:∀i x,l[i]?=some x→TwoAt w g (i*2) x):
 POwn B w (.slice (some ⟨g,0,none⟩) l.length cap) l:=by
 refine⟨zBl l,.inr ⟨g,cap,cur,rfl,hB,hh,h3,h4,h5,?_⟩⟩;refine List.ext_getElem (by rw[List.length_take,zBl];simp;omega) fun t p q=>?_
 rw[zBl]at q;obtain⟨i,j,rfl,hj⟩:∃i j,t=i*2+j∧j<2:=⟨t/2,t%2,by omega,by omega⟩;have hi:i<l.length:=by omega
 have hx:l[i]?=some l[i]:=List.getElem?_eq_getElem hi;have e1:=zDi l i j l[i] hx hj;have e2:=hc i l[i] hx;have e3:(cur.toList)[i*2+j]?=(encP l[i])[j]?:=by
  rcases(by omega:j=0∨j=1)with rfl|rfl
  · have:=e2.c0
    simp only[World.cell?,hh]at this;simpa[encP]using this
  · have:=e2.c1
    simp only[World.cell?,hh]at this;simpa[encP]using this
 have e4:(cur.toList.take (l.length*2))[i*2+j]?=(zBo l)[i*2+j]?:=by
  rw[List.getElem?_take,if_pos (by omega),e3,e1]
 rw[List.getElem?_eq_getElem p,List.getElem?_eq_getElem (by rw[zBl];exact q)]at e4;exact Option.some.inj e4
theorem zQ6:(Tryz.prog.info? 64).map (fun i=>(i.zero,i.size,i.bytes))=some (some (.agg #[.string ByteArray.empty,.int .i64 0]),2,24):=by kernel_rfl
theorem ownBelow{B:Nat}{w w':World}{v:Value}{l:List Pr}(h:POwn B w v l)(hg:w.grownBy w' v.ownBlock)(hB:B≤w.heap.size):Below B w w':=
 (Below.refl B w).grown hg hB (fun k hk=>(World.ownsRow.lt h k hk).1)
theorem zTk{w:World}{B:Nat}{v s:Value}{l m:List Pr}(hown:POwn B w v l)(hr:PRow w s m)(hB:B≤w.heap.size)(h63:l.length+m.length≤2199023255552)(ty:TypeId):
 ∃v' w',(Builtin.append_ #[22,22] ty #[v,s]).run Tryz.prog w = .ok v' w'∧POwn B w' v' (l++m)∧w.grownBy w' v.ownBlock:=by
 obtain⟨i0,hi,hz0,hz1,hz2⟩:=info_parts zQ6;obtain⟨ad,cap,rfl,hc⟩:=hr;rcases Nat.eq_zero_or_pos m.length with h0|h0
 · have hm:m=[]:=List.eq_nil_of_length_eq_zero h0
   subst hm;refine⟨v,w,?_,by simpa using hown,⟨rfl,rfl,rfl,Nat.le_refl _,fun _ _ _=>rfl⟩⟩;obtain⟨_,h2⟩:=hown;rcases h2 with⟨rfl,h0⟩|⟨g,cap,cur,rfl,hb,hh,h3,h4,h5,h6⟩
   · cases ad<;>go_simp
   · cases ad<;>go_simp
 · obtain⟨g,off,rfl,hg,hx⟩:=hc h0
   obtain⟨v',w',h1,h2,h3,_⟩:=run_append_own (P:=Tryz.prog) w B 22 ty 64 i0 _ 2 24 Tryz.underlying22 hi hz0 hz1 hz2 rfl (by decide) v l.length _ hown ⟨g,off,none⟩ m.length cap (zBo m) (zBl m) (fun j u hj=>by
    have hjl:=(List.getElem?_eq_some_iff.1 hj).1;rw[zBl]at hjl;obtain⟨i,r,rfl,hr⟩:∃i r,j=i*2+r∧r<2:=⟨j/2,j%2,by omega,by omega⟩;(have hi:i<m.length:=by omega);have e2:=hx i m[i] (List.getElem?_eq_getElem hi);rw[zDi m i r m[i] (List.getElem?_eq_getElem hi) hr]at hj;(have hadd:∀j,(⟨g,off,none⟩:Addr).add j=⟨g,off+j,none⟩:=fun j=>by unfold Addr.add;split<;>simp_all);rw[hadd,←Nat.add_assoc];rcases(by omega:r=0∨r=1)with rfl|rfl
    · simp only[encP,List.getElem?_cons_zero,Option.some.injEq]at hj
      rw[←hj];exact e2.c0
    · simp only[encP,List.getElem?_cons_succ,List.getElem?_cons_zero,Option.some.injEq]at hj
      rw[←hj];exact e2.c1) (zJ5 m) (by simp only[maxLen];omega) (by omega) hB
   refine⟨v',w',h1,?_,h3⟩;unfold POwn;rw[List.length_append,zF4];exact h2
theorem PRow.one{w:World}{g:Nat}{x:Pr}{c:Nat}(h:TwoAt w g 0 x):PRow w (.slice (some ⟨g,0,none⟩) 1 c) [x]:=
 ⟨_,c,rfl,fun _=>⟨g,0,rfl,h.lt,fun i y hi=>by
  cases i with
  |zero=>simp only[List.getElem?_cons_zero,Option.some.injEq]at hi;subst hi;simpa using h
  |succ i=>simp at hi⟩⟩
theorem zF7{w:World}{ops:Array Oper}{rest:List Oper}{o:Oper}{a:Act}{Q:Exit→Act→World→Prop}(hgd:o.guard=none)(s x:Operand)
 (ho:o.op = .call { callee := .builtin .append,args:=#[s,x],argTypes:=#[22,22] }) (B:Nat) (v u:Value) (l m:List Pr) (hs:a.eval s=v) (hown:POwn B w v l) (hx:a.eval x=u) (hr:PRow w u m) (h63:l.length+m.length≤2199023255552) (hB:B≤w.heap.size)
 (h:∀v' w',POwn B w' v' (l++m)→Below B w w'→w.grownBy w' v.ownBlock→wpList Tryz.prog ops Q rest (a.put o.dst v') w'):wpList Tryz.prog ops Q (o::rest) a w:=by
 obtain⟨v',w',h1,h2,h3⟩:=zTk hown hr hB h63 o.type;refine wpList_plain hgd fun _ hK=>?_
 unfold Oper.wp execOp;simp only[ho,resolve,invoke,builtin,Sem.run_bind,Sem.run_pure,Result.andThen_ok,List.map_toArray,List.map_cons,List.map_nil,hs,hx,h1];exact hK _ _ (h v' w' h2 (ownBelow hown h3 hB) h3)
theorem TwoAt.new(W:World)(x:Pr)(T:TypeId):TwoAt (W.alloc (.cells #[.string x.1,.int .i64 x.2] T)) W.heap.size 0 x:=⟨by simp,by simp⟩
theorem zCy{W:World}{ops:Array Oper}{rest:List Oper}{o:Oper}{a:Act}{Q:Exit→Act→World→Prop}(hgd:o.guard=none)(s y:Operand)(x:Pr)(T:TypeId)
 (ho:o.op = .call { callee := .builtin .append,args:=#[s,y],argTypes:=#[22,22] }) (B nb c:Nat) (v:Value) (l:List Pr) (hs:a.eval s=v) (hown:POwn B W v l) (hx:a.eval y = .slice (some ⟨nb,0,none⟩) 1 c) (hnb:nb=W.heap.size) (h63:l.length<2199023255552) (hB:B≤W.heap.size)
 (h:∀v' w',POwn B w' v' (l++[x])→Below B W w'→wpList Tryz.prog ops Q rest (a.put o.dst v') w'):wpList Tryz.prog ops Q (o::rest) a (W.alloc (.cells #[.string x.1,.int .i64 x.2] T)):=by
 subst hnb;refine zF7 hgd s y ho B v _ l [x] hs (hown.below ((Below.refl _ W).alloc (Nat.le_refl _) _)) hx (PRow.one (TwoAt.new W x T)) (by simp;omega) (by simp;omega) fun v' w' h1 h2 _=>h v' w' h1 (((Below.refl B W).alloc hB _).trans h2)
theorem zAb(w:World)(o:Obj):(w.alloc o).heap[w.heap.size]?=some o:=(MapKept.heap_alloc w o).1
theorem zKn{w:World}{blk off q:Nat}{d:Array Pr}{os:Array Obj}{k:Nat}(hk:k<w.heap.size)(hne:k≠blk):(sortWorldK encP 2 w blk off q d os).heap[k]?=w.heap[k]?:=by
 unfold sortWorldK grow putRowK putRow mapBlock;simp only;rw[Array.getElem?_append_left (by simpa[Sort.ahead]using hk),Array.getElem?_modify,if_neg (fun e=>hne e.symm)];rfl
theorem zMe{w:World}{blk off q:Nat}{d:Array Pr}{os:Array Obj}{cur:Array Value}{T:TypeId}(h:w.heap[blk]?=some (.cells cur T (0,0))):∃cur',cur'.size=cur.size∧(sortWorldK encP 2 w blk off q d os).heap[blk]?=some (.cells cur' T (0,0)):=by
 have hk:=(Array.getElem?_eq_some_iff.1 h).1;unfold sortWorldK grow putRowK putRow mapBlock;simp only;rw[Array.getElem?_append_left (by simpa[Sort.ahead]using hk),Array.getElem?_modify,if_pos rfl];show ∃cur',_∧Option.map _ w.heap[blk]?=_;rw[h];exact⟨_,by simp[putCells],rfl⟩
theorem SWK.below{w w':World}{blk off:Nat}{d:Array Pr}{B:Nat}(h:SWK encP 2 w blk off d w')(hB:B≤blk)(hBw:B≤w.heap.size):Below B w w':=by
 have hs:=h.le;obtain⟨q,os,rfl⟩:=h;exact⟨rfl,rfl,rfl,hs,fun k hk=>zKn (by omega) (by omega)⟩
theorem RowP.of_own{B:Nat}{w:World}{g cap:Nat}{l:List Pr}(h:POwn B w (.slice (some ⟨g,0,none⟩) l.length cap) l)(hl:l.length<1125899906842624):RowP w g 0 l.length∧SWK encP 2 w g 0 l.toArray w∧B≤g:=by
 obtain⟨_,⟨e,_⟩|⟨g',cap',cur,e,h1,hh,h3,h4,h5,h6⟩⟩:=h
 · cases e
 · simp only[Value.slice.injEq,Option.some.injEq,Addr.mk.injEq]at e
   obtain⟨⟨rfl,_⟩,_,rfl⟩:=e;have hc:=POwn.cells hh h6;have hsz:=(Array.getElem?_eq_some_iff.1 hh).1;(have fz:∀o,w.frozen? ⟨g,o,none⟩=false:=fun o=>by simp[World.frozen?,hh]);have H:HoldsK encP 2 w g 0 l.toArray:=by
    intro t ht;(have ht2:t<l.length*2:=by simpa using ht);obtain⟨i,j,rfl,hj⟩:∃i j,t=i*2+j∧j<2:=⟨t/2,t%2,by omega,by omega⟩;(have hi:i<l.length:=by omega);have e2:=hc i l[i] (List.getElem?_eq_getElem hi);refine⟨?_,fz _⟩;rw[get_flatK _ _ _ _ (by simpa using ht2),show(i*2+j)/2=i by omega,show(i*2+j)%2=j by omega];(have el:l.toArray[i]! = l[i]:=by simp[hi]);rw[el];rcases(by omega:j=0∨j=1)with rfl|rfl
    · have:=e2.c0
      rw[Nat.zero_add]at this ⊢;exact this
    · have:=e2.c1
      rw[Nat.zero_add]at this ⊢;exact this
   exact⟨⟨⟨l.toArray,by simp,⟨encP_k,encP_one,H,hsz⟩⟩,by omega⟩,SWK.start H,h1⟩
theorem POwn.sorted{B:Nat}{w w':World}{g cap:Nat}{l l':List Pr}(h:POwn B w (.slice (some ⟨g,0,none⟩) l.length cap) l)(hl:l.length<1125899906842624)(hS:SWK encP 2 w g 0 l'.toArray w')(he:l'.length=l.length):POwn B w' (.slice (some ⟨g,0,none⟩) l'.length cap) l':=by
 obtain⟨R,_,hB⟩:=RowP.of_own h hl;have H:=R.holds hS (by simpa using he);obtain⟨_,⟨e,_⟩|⟨g',cap',cur,e,h1,hh,h3,h4,h5,h6⟩⟩:=h
 · cases e
 · simp only[Value.slice.injEq,Option.some.injEq,Addr.mk.injEq]at e
   obtain⟨⟨rfl,_⟩,_,rfl⟩:=e;obtain⟨q,os,rfl⟩:=hS;obtain⟨cur',k1,k2⟩:=zMe (off:=0) (q:=q) (d:=l'.toArray) (os:=os) hh;(refine POwn.of_cells hB k2 (by omega) h4 (by omega) fun i x hi=>?_);have hil:=(List.getElem?_eq_some_iff.1 hi).1;(have ex:l'.toArray[i]! = x:=by simp[hi]);have c0:=(cellP0 H (i:=i) (by simpa using hil)).1;have c1:=(cellP1 H (i:=i) (by simpa using hil)).1;rw[ex,Nat.zero_add]at c0 c1;exact⟨c0,c1⟩
end
