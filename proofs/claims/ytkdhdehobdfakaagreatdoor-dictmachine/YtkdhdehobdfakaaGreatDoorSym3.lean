import Derived.Test.YtkdhdehobdfakaaGreatDoorJ4
import Derived.Deep.Cut
namespace Go.Proofs.YtkdhdehobdfakaaGreatDoor
open Go.RowKit Go.Shelf Go.Lib Go.Sort Pm
set_option maxRecDepth 1000000
attribute [local go_sem ↓] exec_load_P exec_store_P
theorem zJe{p:Prop}(h:p):Aside p:=h
def SymAt(blk off n cap:Nat)(w0:World)(N:Nat):Prop:=
 ∀(w:World) (A L Q B:List Pr),SWK encP 2 w0 blk off (A++(L++(Q++B))).toArray w→(A++(L++(Q++B))).length=n→Up zAa L→Up zAa Q→0<L.length→0<Q.length→L.length+Q.length≤N→∀(a m b:Nat),a=A.length→m=a+L.length→b=m+Q.length →
  Calls Tryz.prog 159 #[.slice (some ⟨blk,off,none⟩) n cap,.int .i64 a,.int .i64 m,.int .i64 b,.func (.func 112) #[] #[]] w fun e w'=>e = .returned (.tuple #[])∧∃X,Stably zAa (L++Q) X∧SWK encP 2 w0 blk off (A++(X++B)).toArray w'
theorem turn_at(A L Q B:List Pr)(hL:Up zAa L)(hQ:Up zAa Q)(a m b s e:Nat)(ha:a=A.length)(hm:m=a+L.length)(hb:b=m+Q.length)(h1:a≤s)(h2:s≤m)(h3:m≤e)(h4:e≤b)
 (hc1:s=a∨e=b∨zAa (A++(L++(Q++B))).toArray[e]!.1 (A++(L++(Q++B))).toArray[s-1]!.1=false) (hc2:s=m∨e=m∨zAa (A++(L++(Q++B))).toArray[e-1]!.1 (A++(L++(Q++B))).toArray[s]!.1=true):
 ∃L1 L2 Q1 Q2,L=L1++L2∧Q=Q1++Q2∧a+L1.length=s∧m+Q1.length=e∧(∀u∈L1,∀v∈Q2,zAa v.1 u.1=false)∧(∀u∈Q1,∀v∈L2,zAa u.1 v.1=true):=by
 obtain⟨L1,L2,g1,g2,g3,g4⟩:=zK5 A L (Q++B) s (by omega) (by omega);obtain⟨Q1,Q2,k1,k2,k3,k4⟩:=zK5 (A++L) Q B e (by simp;omega) (by simp;omega);rw[show A++L++(Q++B)=A++(L++(Q++B))by simp]at k3 k4;have k2':m+Q1.length=e:=by simp at k2;omega
 have gl:L1.length+L2.length=L.length:=by rw[g1];simp
 have kl:Q1.length+Q2.length=Q.length:=by rw[k1];simp
 refine⟨L1,L2,Q1,Q2,g1,k1,by omega,k2',?_,?_⟩
 · rcases Nat.eq_zero_or_pos L1.length with z|z
   · rw[List.eq_nil_of_length_eq_zero z];intro u hu;cases hu
   rcases Nat.eq_zero_or_pos Q2.length with y|y
   · rw[List.eq_nil_of_length_eq_zero y];intro u _ v hv;cases hv
   obtain⟨p,u,e1,e2⟩:=g3 z;obtain⟨v,q,f1,f2⟩:=k4 y;rw[e2,f2]at hc1;have hlt:=(hc1.resolve_left (by omega)).resolve_left (by omega);rw[e1,f1];rw[g1,e1]at hL;rw[k1,f1]at hQ;exact up_le lessB_sto (zD0 hL) (zB9 hQ) hlt
 · rcases Nat.eq_zero_or_pos Q1.length with z|z
   · rw[List.eq_nil_of_length_eq_zero z];intro u hu;cases hu
   rcases Nat.eq_zero_or_pos L2.length with y|y
   · rw[List.eq_nil_of_length_eq_zero y];intro u _ v hv;cases hv
   obtain⟨p,u,e1,e2⟩:=k3 z;obtain⟨v,q,f1,f2⟩:=g4 y;rw[e2,f2]at hc2;have hlt:=(hc2.resolve_left (by omega)).resolve_left (by omega);rw[e1,f1];rw[g1,f1]at hL;rw[k1,e1]at hQ;exact up_lt lessB_sto (zD0 hQ) (zB9 hL) hlt
theorem zPc{L1 Q1:List Pr}(hL:Up zAa L1)(hQ:Up zAa Q1)(h:¬(0<L1.length∧0<Q1.length)):Stably zAa (L1++Q1) (L1++Q1):=by
 refine Stably.self ?_;rcases Nat.eq_zero_or_pos L1.length with z|z
 · rw[List.eq_nil_of_length_eq_zero z];exact hQ
 rcases Nat.eq_zero_or_pos Q1.length with y|y
 · rw[List.eq_nil_of_length_eq_zero y];simpa using hL
 · exact absurd ⟨z,y⟩ h
set_option maxHeartbeats 16000000 in
theorem zG2(blk off n cap:Nat)(w0:World)(R:RowP w0 blk off n):∀N,SymAt blk off n cap w0 N:=by
 intro N
 induction N with
 |zero=>intro w A L Q B _ _ _ _ h0 _ hN;omega
 |succ N ih=>
  intro w A L Q B S hn hL hQ h0 h1 hN a m b ha hm hb;by_cases hl1:L.length=1
  · obtain⟨x,rfl⟩:∃x,L=[x]:=by
     match L,hl1 with
     |[x],_=>exact⟨x,rfl⟩
    exact zMp blk off n cap w0 w R A Q B x S hn hQ a m b ha hm hb
  by_cases hq1:Q.length=1
  · obtain⟨x,rfl⟩:∃x,Q=[x]:=by
     match Q,hq1 with
     |[x],_=>exact⟨x,rfl⟩
    exact zMo blk off n cap w0 w R A L B x S hn hL hl1 a m b ha hm hb
  have hbig:=R.big;have mixed:=zAr;have eg:∀args w,(callFunc 112 args).run Tryz.prog w = .ok (.enter 112 args) w:=enters_of Tryz.func112 (by kernel_rfl) rfl;have hn':A.length+(L.length+(Q.length+B.length))=n:=by simpa using hn
  obtain⟨dl,hdl⟩:∃dl,m-a=dl:=⟨_,rfl⟩;obtain⟨dq,hdq⟩:∃dq,b-m=dq:=⟨_,rfl⟩;have ema:(m:Int)-(a:Int)=(dl:Int):=by omega
  have ema1:((dl:Int)==1)=false:=beq_eq_false_iff_ne.2 (by omega);have ebm:(b:Int)-(m:Int)=(dq:Int):=by omega
  have ebm1:((dq:Int)==1)=false:=beq_eq_false_iff_ne.2 (by omega);obtain⟨mid,hmid⟩:∃mid,mid=(a+b)/2:=⟨_,rfl⟩;have emid:((a:Int)+(b:Int))/2=(mid:Int):=by omega
  obtain⟨nn,hnn⟩:∃nn,nn=mid+m:=⟨_,rfl⟩;have enn:(mid:Int)+(m:Int)=(nn:Int):=by omega
  obtain⟨p,hp⟩:∃p,p+1=nn:=⟨nn-1,by omega⟩;have ep:(nn:Int)-1=(p:Int):=by omega
  obtain⟨st0,r0,hst⟩:∃st0 r0,(mid<m∧st0+b=nn∧r0=mid)∨(m≤mid∧st0=a∧r0=m):=by
   by_cases h:mid<m
   · exact⟨nn-b,mid,.inl ⟨h,by omega,rfl⟩⟩
   · exact⟨a,m,.inr ⟨by omega,rfl,rfl⟩⟩
  have hsr:st0≤r0:=by omega
  have hast:a≤st0:=by omega
  have hrm:r0≤m:=by omega
  have hrmid:r0≤mid:=by omega
  have hstp:nn≤st0+b:=by omega
  have hbn:b≤n:=by omega
  have hrp:r0≤p+1-m:=by omega
  have IH:Hid (SymAt blk off n cap w0 N∧SymAt blk off n cap w0 N):=⟨ih,ih⟩;have S0:Aside (SWK encP 2 w0 blk off (A++(L++(Q++B))).toArray w):=S;have HLEN:Hid ((A++(L++(Q++B))).length=n):=hn;have HUP:Hid (Up zAa L∧Up zAa Q):=⟨hL,hQ⟩;have HAA:Hid (a=A.length):=ha;have HMB:Hid (m=a+L.length∧b=m+Q.length):=⟨hm,hb⟩;have HLN0:Hid (nn=mid+m∧p+1=nn):=⟨hnn,hp⟩;have HN1:Hid (L.length+Q.length≤N+1∧a<mid∧mid<b):=⟨hN,by omega,by omega⟩;have HST:Hid ((mid<m∧st0+b=nn∧r0=mid)∨(m≤mid∧st0=a∧r0=m)):=hst;have HL:Hid ((A++(L++(Q++B))).toArray.size=n):=by show _=_;simpa using hn
  obtain⟨d,hd⟩:∃d:Array Pr,(A++(L++(Q++B))).toArray=d:=⟨_,rfl⟩;have HD:Hid ((A++(L++(Q++B))).toArray=d):=hd;rw[hd]at S0 HL;have hpm:m≤p+1:=by omega
  clear S hn hn' hL hQ h0 h1 hN ha hm hb hd hl1 hq1 hdl hdq hnn hp ih hmid hst;go_enter Tryz.func159,Tryz.ntmps159
  go_upto_if 140 with fail
  go_cut [20,21]from 138 (fun s20 s21 wc=>s20 = .int .i64 st0∧s21 = .int .i64 r0∧wc=w)
  case first=>
   by_cases hcase:mid<m
   · have hcz:(mid:Int)<(m:Int):=by omega
     (have est:(nn:Int)-(b:Int)=(st0:Int):=by have:=HST.out;have:=HLN0.out;omega);(have erz:Hid (r0=mid):=by show _=_;have:=HST.out;omega);go_wp2
     go_meet
     exact⟨rfl,by rw[erz.out],rfl⟩
   · have hcz:¬(mid:Int)<(m:Int):=by omega
     (have esa:Hid (st0=a):=by show _=_;have:=HST.out;omega);(have erm:Hid (r0=m):=by show _=_;have:=HST.out;omega);go_wp2
     go_meet
     exact⟨by rw[esa.out],by rw[erm.out],rfl⟩
  case rest=>
  obtain⟨rfl,rfl,rfl⟩:=hcut;go_wp2
  go_loopg [20,21] (r0-st0) (fun g s20 s21 wr=>∃(s r:Nat),s20 = .int .i64 s∧s21 = .int .i64 r∧st0≤s∧s≤r∧r≤r0∧r-s≤g∧Aside (SWK encP 2 w0 blk off d wr)∧Hid ((s=st0∨zAa d[p-(s-1)]!.1 d[s-1]!.1=false)∧(r=r0∨zAa d[p-r]!.1 d[r]!.1=true)))
  case atStart=>exact⟨st0,r0,rfl,rfl,Nat.le_refl _,hsr,Nat.le_refl _,Nat.le_refl _,S0,.inl rfl,.inl rfl⟩
  case round=>
   clear S0;obtain⟨s,r,rfl,rfl,hss,hsr2,hrr,hg,S1,H⟩:=hrel;by_cases hlt:s<r
   · have hltz:(s:Int)<(r:Int):=by omega
     obtain⟨c,hc⟩:∃c,c=(s+r)/2:=⟨_,rfl⟩;(have ecz:((s:Int)+(r:Int))/2=(c:Int):=by omega);(have hsc:s≤c:=by omega);(have hcr:c<r:=by omega);clear hc;obtain⟨pc,hpc⟩:∃pc,pc+c=p:=⟨p-c,by omega⟩;(have epc:(p:Int)-(c:Int)=(pc:Int):=by omega);(have hpn:pc<n:=by have:=HLN0.out;omega);(have HPC:Hid (p-c=pc):=by show _=_;omega);clear hpc;(have rc:IntKind.i64.wrap (c:Int)=(c:Int):=by rw[IntKind.wrap_i64];omega);(have pcc:(0:Int)≤(c:Int):=by omega);(have bc:(c:Int)<(n:Int):=by omega);(have ec:(c:Int).toNat=c:=by omega);(have rp:IntKind.i64.wrap (pc:Int)=(pc:Int):=by rw[IntKind.wrap_i64];omega);(have ppc:(0:Int)≤(pc:Int):=by omega);(have bpc:(pc:Int)<(n:Int):=by omega);(have epc2:(pc:Int).toNat=pc:=by omega);have lc:=R.ld S1.out HL.out c (by omega);have lp:=R.ld S1.out HL.out pc hpn;obtain⟨y,hy⟩:∃y,d[pc]! = y:=⟨_,rfl⟩;obtain⟨x,hx⟩:∃x,d[c]! = x:=⟨_,rfl⟩;rw[hy]at lp;rw[hx]at lc;have HY:Hid (d[pc]! = y):=hy;have HX:Hid (d[c]! = x):=hx;clear hy hx;have hcm:=RowP.cmp S1.out y x;cases hv:zAa y.1 x.1
     · have hv1:¬cfP y x<0:=zD9 hv
       have hv2:decide (cfP y x<0)=false:=decide_eq_false hv1;have HV:Hid (zAa y.1 x.1=false):=hv;clear hv;go_wp2_with fail
       go_quiet_grown (first|(go_at_fn 112;refine Calls.grown_of (hcm _ _))|(go_at_call 112;refine Calls.grown_of (hcm _ _)))
       have S2:Aside (SWK encP 2 w0 blk off d (grow (wr.drewN nq) osq)):=S1.out.grown nq osq;clear lc lp hcm S1;generalize grow (wr.drewN nq) osq=w2 at S2 ⊢;go_wp2;go_roundg (r-(c+1));(case measure=>omega);case rel=>exact⟨c+1,r,by go_num,rfl,by omega,by omega,hrr,Nat.le_refl _,S2,.inr (by rw[Nat.add_sub_cancel,HPC.out,HY.out,HX.out];exact HV.out),H.out.2⟩
     · have hv1:cfP y x<0:=zLe hv
       have hv2:decide (cfP y x<0)=true:=decide_eq_true hv1;have HV:Hid (zAa y.1 x.1=true):=hv;clear hv;go_wp2_with fail
       go_quiet_grown (first|(go_at_fn 112;refine Calls.grown_of (hcm _ _))|(go_at_call 112;refine Calls.grown_of (hcm _ _)))
       have S2:Aside (SWK encP 2 w0 blk off d (grow (wr.drewN nq) osq)):=S1.out.grown nq osq;clear lc lp hcm S1;generalize grow (wr.drewN nq) osq=w2 at S2 ⊢;go_wp2;go_roundg (c-s);(case measure=>omega);case rel=>exact⟨s,c,rfl,rfl,hss,hsc,by omega,Nat.le_refl _,S2,H.out.1,.inr (by rw[HPC.out,HY.out,HX.out];exact HV.out)⟩
   · have hltz:¬(s:Int)<(r:Int):=by omega
     (obtain rfl:s=r:=by omega);obtain⟨en,hen⟩:∃en,en+s=nn:=⟨nn-s,by have:=HLN0.out;omega⟩;(have een:(nn:Int)-(s:Int)=(en:Int):=by omega);(have hm1:m≤en:=by have:=HLN0.out;omega);have hm2:en≤b:=by omega
     have hcut:=turn_at A L Q B HUP.out.1 HUP.out.2 a m b s en HAA.out HMB.out.1 HMB.out.2 (by omega) (by omega) hm1 hm2
      (by
       rw[HD.out];by_cases e:s=st0
       · have:=HST.out;omega
       · have h:=H.out.1.resolve_left e
         rw[show p-(s-1)=en by have:=HLN0.out;omega]at h;exact .inr (.inr h))
      (by
       rw[HD.out];by_cases e:s=r0
       · have:=HST.out;have:=HLN0.out;omega
       · have h:=H.out.2.resolve_left e
         rw[show p-s=en-1 by have:=HLN0.out;omega]at h;exact .inr (.inr h))
     obtain⟨L1,L2,Q1,Q2,eL,eQ,l1,l2,g1,g2⟩:=hcut;(have HUL:Hid (Up zAa (L1++L2)∧Up zAa (Q1++Q2)):=by have h:=HUP.out;rw[eL,eQ]at h;exact h);have HLN:Hid (a+L1.length=s∧m+Q1.length=en∧m=s+L2.length∧b=en+Q2.length∧en+s=mid+m∧A.length+(L1.length+(L2.length+(Q1.length+(Q2.length+B.length))))=n∧a=A.length∧a<mid∧mid<b∧b-a≤N+1):=by
      have h1:=HMB.out;have h2:=HLEN.out;have h3:=HLN0.out;have h4:=HN1.out;have h5:=HAA.out;rw[eL,eQ]at h1 h2 h4;show _∧_;simp at h1 h2 h4;omega
     have HF:Hid (∀X Y,Stably zAa (L1++Q1) X→Stably zAa (L2++Q2) Y→Stably zAa (L++Q) (X++Y)):=fun X Y h1 h2=>by
      rw[eL,eQ];exact turned lessB_sto HUL.out.1 HUL.out.2 g1 g2 h1 h2
     have S2:Aside (SWK encP 2 w0 blk off (A++(L1++(L2++(Q1++(Q2++B))))).toArray wr):=by
      have h:=S1.out;rw[←HD.out,eL,eQ]at h;exact zJe (by simpa using h)
     clear S1 eL eQ l1 l2 g1 g2 H HD HL hen;go_upto_region 39 with fail
     go_cut [24,185]from 178 (fun s24 s185 wc=>s24 = .int .i64 en∧s185 = .bool (decide (s<m∧m<en))∧wc=wr)
     case first=>
      by_cases hr1:s<m
      · have hr1z:(s:Int)<(m:Int):=by omega
        by_cases hr2:m<en
        · have hr2z:(m:Int)<(en:Int):=by omega
          go_wp2
          go_meet
          exact⟨rfl,by rw[decide_eq_true (⟨hr1,hr2⟩:s<m∧m<en)],rfl⟩
        · have hr2z:¬(m:Int)<(en:Int):=by omega
          go_wp2
          go_meet
          exact⟨rfl,by rw[decide_eq_false (fun h=>hr2 h.2:¬(s<m∧m<en))],rfl⟩
      · have hr1z:¬(s:Int)<(m:Int):=by omega
        go_wp2
        go_meet
        exact⟨rfl,by rw[decide_eq_false (fun h=>hr1 h.1:¬(s<m∧m<en))],rfl⟩
     case rest=>
     obtain⟨rfl,rfl,rfl⟩:=hcut
     go_upto_if 185 with fail
     go_cut [24]from 178 (fun s24 wd=>s24 = .int .i64 en∧Aside (SWK encP 2 w0 blk off (A++(L1++(Q1++(L2++(Q2++B))))).toArray wd))
     case first=>
      by_cases hr:s<m∧m<en
      · have hc:=zSt blk off n cap w0 _ R (A++L1) L2 Q1 (Q2++B) (by have h:=S2.out;simpa using h) (by have:=HLN.out;simp;omega) (by have:=HLN.out;omega) (by have:=HLN.out;omega) s m en (by have:=HLN.out;simp;omega) (by have:=HLN.out;simp;omega) (by have:=HLN.out;simp;omega)
        rw[decide_eq_true hr];go_wp2_with (go_at_call 174;refine hc.mono ?_;rintro e w4 ⟨rfl,S3⟩)
        go_meet
        exact⟨rfl,zJe (by have h:=S3;simpa using h)⟩
      · rw[decide_eq_false hr]
        go_wp2
        go_meet
        by_cases hr1:s<m
        · have e1:Q1=[]:=List.eq_nil_of_length_eq_zero (by have:=HLN.out;omega)
          exact⟨rfl,zJe (by have h:=S2.out;rw[e1]at h ⊢;simpa using h)⟩
        · have e1:L2=[]:=List.eq_nil_of_length_eq_zero (by have:=HLN.out;omega)
          exact⟨rfl,zJe (by have h:=S2.out;rw[e1]at h ⊢;simpa using h)⟩
     case rest=>
     obtain⟨rfl,S3⟩:=hcut;clear S2;go_upto_region 41 with fail
     go_cut [24,199]from 178 (fun s24 s199 we=>s24 = .int .i64 en∧s199 = .bool (decide (a<s∧s<mid))∧Aside (SWK encP 2 w0 blk off (A++(L1++(Q1++(L2++(Q2++B))))).toArray we))
     case first=>
      by_cases hr1:a<s
      · have hr1z:(a:Int)<(s:Int):=by omega
        by_cases hr2:s<mid
        · have hr2z:(s:Int)<(mid:Int):=by omega
          go_wp2
          go_meet
          exact⟨rfl,by rw[decide_eq_true (⟨hr1,hr2⟩:a<s∧s<mid)],S3⟩
        · have hr2z:¬(s:Int)<(mid:Int):=by omega
          go_wp2
          go_meet
          exact⟨rfl,by rw[decide_eq_false (fun h=>hr2 h.2:¬(a<s∧s<mid))],S3⟩
      · have hr1z:¬(a:Int)<(s:Int):=by omega
        go_wp2
        go_meet
        exact⟨rfl,by rw[decide_eq_false (fun h=>hr1 h.1:¬(a<s∧s<mid))],S3⟩
     case rest=>
     clear S3;obtain⟨rfl,rfl,S3⟩:=hcut
     go_upto_if 199 with fail
     go_cut [24]from 178 (fun s24 wd=>s24 = .int .i64 en∧∃X,Hid (Stably zAa (L1++Q1) X)∧Aside (SWK encP 2 w0 blk off ((A++X)++(L2++(Q2++B))).toArray wd))
     case first=>
      by_cases hr:a<s∧s<mid
      · have hc:=IH.out.1 _ A L1 Q1 (L2++(Q2++B)) S3.out (by have:=HLN.out;simp;omega) (zD0 HUL.out.1) (zD0 HUL.out.2) (by have:=HLN.out;omega) (by have:=HLN.out;omega) (by have:=HLN.out;omega) a s mid HAA.out (by have:=HLN.out;omega) (by have:=HLN.out;omega)
        rw[decide_eq_true hr];go_wp2_with (go_at_call 159;refine hc.mono ?_;rintro e w4 ⟨rfl,X,hX,S4⟩)
        go_meet
        exact⟨rfl,X,hX,zJe (by have h:=S4;simpa using h)⟩
      · rw[decide_eq_false hr]
        go_wp2
        go_meet
        exact⟨rfl,L1++Q1,zPc (zD0 HUL.out.1) (zD0 HUL.out.2) (by have:=HLN.out;omega),zJe (by have h:=S3.out;simpa using h)⟩
     case rest=>
     obtain⟨rfl,X,HX,S4⟩:=hcut;clear S3;(have HXL:Hid (X.length=L1.length+Q1.length):=by show _=_;have:=HX.out.len;simpa using this);by_cases hr1:mid<en
     · have hr1z:(mid:Int)<(en:Int):=by omega
       by_cases hr2:en<b
       · have hr2z:(en:Int)<(b:Int):=by omega
         have hc:=IH.out.1 _ (A++X) L2 Q2 B S4.out (by have:=HLN.out;have:=HXL.out;simp;omega) (zB9 HUL.out.1) (zB9 HUL.out.2) (by have:=HLN.out;omega) (by have:=HLN.out;omega) (by have:=HLN.out;omega) mid en b (by have:=HLN.out;have:=HXL.out;simp;omega) (by have:=HLN.out;omega) (by have:=HLN.out;omega);go_wp2_with (go_at_call 159;refine hc.mono ?_;rintro e w4 ⟨rfl,Y,hY,S5⟩)
         go_end0
         exact⟨rfl,X++Y,HF.out X Y HX.out hY,by have h:=S5;simpa using h⟩
       · have hr2z:¬(en:Int)<(b:Int):=by omega
         go_wp2
         go_end0
         exact⟨rfl,X++(L2++Q2),HF.out X _ HX.out (zPc (zB9 HUL.out.1) (zB9 HUL.out.2) (by have:=HLN.out;omega)),by have h:=S4.out;simpa using h⟩
     · have hr1z:¬(mid:Int)<(en:Int):=by omega
       go_wp2
       go_end0
       exact⟨rfl,X++(L2++Q2),HF.out X _ HX.out (zPc (zB9 HUL.out.1) (zB9 HUL.out.2) (by have:=HLN.out;omega)),by have h:=S4.out;simpa using h⟩
