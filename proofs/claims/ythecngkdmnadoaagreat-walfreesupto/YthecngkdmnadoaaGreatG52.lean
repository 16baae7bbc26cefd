/- Texts that were written apart, joined. -/
import Derived.Test.YthecngkdmnadoaaGreatG51
import Derived.Test.YthecngkdmnadoaaGreatG45
import Derived.Test.YthecngkdmnadoaaGreatG50
import Derived.Test.YthecngkdmnadoaaGreatG38
namespace Go.Proofs.YthecngkdmnadoaaGreat
open Go.RowKit
set_option maxRecDepth 100000
def crashD(d:DS)(ps:List Int):DS:=⟨d.room,0,0,false,false,crashS ps d.secs⟩
theorem empty_disk{w:World}{sh:Sh}(h:Held w sh)(hr:Rep sh []):sh.L=[]∧sh.F=[]:=by
 obtain⟨h1,h2⟩:=len_areas h hr;exact⟨List.eq_nil_of_length_eq_zero (Nat.le_zero.1 h1),List.eq_nil_of_length_eq_zero (Nat.le_zero.1 h2)⟩
theorem copied_get{M L:ML}(h:∀a,(mget a M).map (·.2)=(mget a L).map (·.2))(a n:Int):twoGet M a n=twoGet L a n:=by
 have:=h a;unfold twoGet;cases hm:mget a M with
 |none=>
  cases hl:mget a L with
  |none=>rfl
  |some y=>rw[hm,hl]at this;simp at this
 |some x=>
  cases hl:mget a L with
  |none=>rw[hm,hl]at this;simp at this
  |some y=>
   rw[hm,hl]at this;simp only[Option.map_some,Option.some.injEq]at this;simp only[Option.bind_some,this]
theorem crash_start{w w1 w2:World}{sh sh0:Sh}{q mb:Nat}{room:Int}{M:ML}(hh:Held w sh)(hq:w1.heap[q]?=some (dC room 0 0 false false 0 sh0.lb sh0.fb))(h0:Held w1 sh0)(he:sh0.F=[])(hn:(q::sh0.blocks).Nodup)(hge:∀b∈q::sh0.blocks,w.heap.size≤b)(hb1:Below w.heap.size w w1)
 (ht:Two verV w2 mb M) (hg:∀a,(mget a M).map (·.2)=(mget a sh.L).map (·.2)) (hmb:w1.heap.size≤mb) (hM:∀p∈M,w1.heap.size≤p.2.1) (hb2:Below w1.heap.size w1 w2):
 CrashR w q mb sh0.fb room (w2.setCell ⟨q,6,none⟩ (.map (some mb))) M (lget sh):=by
 have hql:=(Array.getElem?_eq_some_iff.1 hq).1;have hs1:=hb1.size;have hf0:=h0.hf;rw[he]at hf0;have hfl:=hf0.lt;have hne:∀k,k≠q→(w2.setCell ⟨q,6,none⟩ (.map (some mb))).heap[k]?=w2.heap[k]?:=fun k hk=>Below.heap_setCell _ _ _ _ hk
 have hqf:q≠sh0.fb:=fun e=>(List.nodup_cons.1 hn).1 (by rw[e];exact .tail _ (.head _))
 refine⟨⟨ht.1.same (hne mb (by omega)),fun p hp=>(ht.2.1 p hp).same (hne _ (by have:=hM p hp;omega)),ht.2.2⟩,fun p hp=>?_,fun a n=>?_,by omega,fun p hp=>?_,?_,?_,⟨by omega,by omega,hqf⟩,⟨hge q (.head _),hge _ (.tail _ (.tail _ (.head _)))⟩,?_⟩
 · have e:=hg p.1
   rw[mget_of_mem ht.1.nodup (show(p.1,p.2)∈M from hp)]at e;cases hl:mget p.1 sh.L with
   |none=>rw[hl]at e;simp at e
   |some y=>
    rw[hl]at e;simp only[Option.map_some,Option.some.injEq]at e;obtain⟨_,h2,h3⟩:=hh.hli _ (mem_keys_of_mget hl);rw[e];exact⟨h3,h2⟩
 · exact copied_get hg a n
 · have:=hM p hp
   exact⟨by omega,by omega,by omega⟩
 · have:=set_cell ((hb2.block q hql).trans hq) 6 (.map (some mb))
   exact this
 · exact hf0.same ((hne _ hqf.symm).trans (hb2.block _ hfl))
 · exact(hb1.trans (hb2.mono hs1)).setCell (hge q (.head _)) _
set_option maxHeartbeats 1000000 in
theorem Crash_any(N p:Nat)(d:DS)(fp:List Nat)(v:Value)(ps:List Int)(w:World)(h:DiskAt N w p d fp)(hp:IntsAt w v ps)(hN:N<1099511627776):
 Calls Tryz.prog 22 #[.pointer (some ⟨p,0,none⟩),v] w fun e w'=>∃q fq,e = .returned (.pointer (some ⟨q,0,none⟩))∧DiskAt N w' q (crashD d ps) fq∧Below w.heap.size w w'∧∀b∈fq,w.heap.size≤b:=by
 have HD:Hid (DiskAt N w p d fp):=h;have HP:Hid (IntsAt w v ps):=hp;obtain⟨r1,r2,_⟩:=h.bounds;obtain⟨sh,h1,h2,h3,_⟩:=h;obtain⟨c0,c1,c2,c3,c4,c5,c6,c7,hz⟩:=disk_cells h1;have hpl:p<w.heap.size:=(Array.getElem?_eq_some_iff.1 h1).1;have HH:Hid (Held w sh):=h2;have HR:Hid (Rep sh d.secs):=h3;have C6:Hid (w.cell? ⟨p,6,none⟩=some (.map (some sh.lb))):=c6;have C7:Hid (w.cell? ⟨p,7,none⟩=some (.map (some sh.fb))):=c7;clear h1 h2 h3 c1 c2 c3 c4 c5 c6 c7 hz hp;go_enter Tryz.func22,Tryz.ntmps22;go_wp2_with fail;refine(New_any d.room w (by omega) r2).mono ?_;rintro e w1 ⟨q,fq,rfl,⟨sh0,hq,hh0,hr0,rfl,hn0,_⟩,hb1,hf1⟩;obtain⟨_,hF0⟩:=empty_disk hh0 hr0;have hrm:max d.room 0=d.room:=by omega
 have hq':w1.heap[q]?=some (dC d.room 0 0 false false 0 sh0.lb sh0.fb):=by rw[hq];show some (dC (max d.room 0) 0 0 false false 0 sh0.lb sh0.fb)=_;rw[hrm]
 have c6:=(hb1.cell (p:=⟨p,6,none⟩) hpl).trans C6.out;have hql:=(Array.getElem?_eq_some_iff.1 hq').1;have HQ:Hid (w1.heap[q]?=some (dC d.room 0 0 false false 0 sh0.lb sh0.fb)):=hq';have HH0:Hid (Held w1 sh0∧sh0.F=[]∧(q::sh0.blocks).Nodup∧(∀b∈q::sh0.blocks,w.heap.size≤b)∧Below w.heap.size w w1):=⟨hh0,hF0,hn0,hf1,hb1⟩;clear hq hq' hh0 hr0 hn0 hf1 hF0 hb1 hrm c0;go_wp2_with fail;refine(copyLasting_any sh.lb sh.L w1 (HH.out.hl.same (HH0.out.2.2.2.2.block _ HH.out.hl.lt)) (fun p hp=>(HH.out.hli p hp).1.same (HH0.out.2.2.2.2.block _ (HH.out.hli p hp).1.lt))).mono ?_;rintro e w2 ⟨mb,M,rfl,ht,hg,hmb,hM,hb2⟩;have hq2:=(hb2.block q hql).trans HQ.out;obtain⟨k0,k1,k2,k3,k4,k5,k6,k7,kz⟩:=disk_cells hq2;have HCR:Hid (CrashR w q mb sh0.fb d.room (w2.setCell ⟨q,6,none⟩ (.map (some mb))) M (lget sh)):=crash_start HH.out HQ.out HH0.out.1 HH0.out.2.1 HH0.out.2.2.1 HH0.out.2.2.2.1 HH0.out.2.2.2.2 ht hg hmb hM hb2;obtain⟨w3,hw3⟩:∃w3,w2.setCell ⟨q,6,none⟩ (.map (some mb))=w3:=⟨_,rfl⟩;have C3:Hid (CrashR w q mb sh0.fb d.room w3 M (lget sh)):=hw3▸HCR.out;have hc7:(w2.setCell ⟨q,6,none⟩ (.map (some mb))).cell? ⟨p,7,none⟩=some (.map (some sh.fb)):=(HCR.out.below.cell (p:=⟨p,7,none⟩) hpl).trans C7.out;have HW3:Hid (w2.setCell ⟨q,6,none⟩ (.map (some mb))=w3):=hw3;clear ht hg hmb hM hb2 hq2 HCR hw3 k7 k0 k1 k2 k3 k4 k5 HQ HH0 c6;go_wp2_with fail;rw[HW3.out];have hFl:sh.F.length<1099511627776:=by
  have h1:=(len_areas HH.out HR.out).2;have h2:=HD.out.bounds.2.2.2.2.1;omega
 refine(riseF' (held_below HH.out C3.out.below) hFl).mono ?_;rintro e w4 ⟨v32,rfl,hrow4,hb4⟩;have C4:Hid (CrashR w q mb sh0.fb d.room w4 M (lget sh)):=C3.out.then hb4;obtain⟨G,hG,hGc⟩:=hrow4.prot;have HG:Hid (∀(i:Nat) x,(SrtU.sorted (keys sh.F))[i]?=some x→∃g cap,v32 = .slice (some ⟨g,0,none⟩) (SrtU.sorted (keys sh.F)).length cap∧g∈G∧w4.cell? ⟨g,i,none⟩=some (.int .u64 x)):=hGc;have P4:Hid (Prot G w4 w4 mb M):=Prot.start C3.out.two hG;obtain⟨A,hA⟩:∃A,SrtU.sorted (keys sh.F)=A:=⟨_,rfl⟩;rw[hA]at HG;have HA:Hid (SrtU.sorted (keys sh.F)=A):=hA;have hAl:A.length<1099511627776:=by rw[←hA,SrtU.sorted_length];simp[keys];omega
 obtain⟨ad32,cp32,e32⟩:=hrow4.shape;rw[hA]at e32;subst e32;clear hrow4 hb4 hG hGc hA HW3 C3 k6 kz hc7;go_wp2_with fail
 go_loopw [1,34] (fun v1 v34 wr=>∃(i:Nat) (M:ML),v34 = .int .i64 i∧i≤A.length∧IntsAt w v1 (stK sh ps ((A.take i).flatMap (innerK sh))).2∧CrashR w q mb sh0.fb d.room wr M (stK sh ps ((A.take i).flatMap (innerK sh))).1∧Prot G w4 wr mb M) (fun _ v34 _=>A.length-(intOf v34).toNat)
 case atStart=>exact⟨0,M,rfl,Nat.zero_le _,HP.out,C4.out,P4.out⟩
 case round=>
  clear C4 P4;obtain⟨i,M,rfl,hi,hvp,hcr,hpr⟩:=hrel;have CR:Hid (CrashR w q mb sh0.fb d.room wr M (stK sh ps ((A.take i).flatMap (innerK sh))).1):=hcr;have PR:Hid (Prot G w4 wr mb M):=hpr;obtain⟨adp,cpp,e1p,_⟩:=id hvp;obtain⟨lp,hlp⟩:∃lp,(stK sh ps ((A.take i).flatMap (innerK sh))).2.length=lp:=⟨_,rfl⟩;rw[hlp]at e1p;subst e1p;have VP:Hid (IntsAt w (.slice adp lp cpp) (stK sh ps ((A.take i).flatMap (innerK sh))).2):=hvp;clear hlp;clear hvp hcr hpr;by_cases hin:i<A.length
  · obtain⟨a,ha⟩:∃a,A[i]?=some a:=⟨_,List.getElem?_eq_getElem hin⟩
    obtain⟨g,cp,eg,hg,hgc⟩:=HG.out i a ha;simp only[Value.slice.injEq]at eg;obtain⟨rfl,_,rfl⟩:=eg;have hgr:=PR.out.cell hg hgc;(have hil:(i:Int)<(A.length:Int):=by omega);have hBw:=CR.out.below;have c7:=(hBw.cell (p:=⟨p,7,none⟩) hpl).trans C7.out;have hHw:=held_below HH.out hBw;have hlF:=look_F hHw a;have HHW:Hid (Held wr sh):=hHw;have HPRE:Hid ((A.take (i+1)).flatMap (innerK sh)=(A.take i).flatMap (innerK sh)++innerK sh a):=by
     show _=_;rw[List.take_add_one,ha,Option.toList_some,List.flatMap_append];simp
    have hIl:(inF sh a).length<1099511627776:=by
     (have h1:=nodup_len_le (keys (inF sh a)) ((d.secs.filter fun s=>s.area=a).map (·.n)) (inF_nodup HH.out a) fun n hn=>((secs_keys HR.out.sorted a).2 n).2 ((find_in_maps HH.out HR.out a n).2 (.inr hn)));have h2:=List.length_filter_le (fun s:Sec=>decide (s.area=a)) d.secs;have h3:=HD.out.bounds.2.2.2.2.1;simp[keys]at h1;omega
    clear ha hgc hBw hHw;go_wp2_with fail;refine(riseS HHW.out a hIl).mono ?_;rintro e w5 ⟨v44,rfl,hrow5,hb5⟩;have C5:Hid (CrashR w q mb sh0.fb d.room w5 M (stK sh ps ((A.take i).flatMap (innerK sh))).1):=CR.out.then hb5;have P5:Hid (Prot G w4 w5 mb M):=PR.out.then hb5;obtain⟨G',hG',hGc'⟩:=hrow5.prot;have Q5:Hid (Prot G' w5 w5 mb M):=Prot.start CR.out.two hG';obtain⟨B,hB⟩:∃B,SrtI.sorted (keys (inF sh a))=B:=⟨_,rfl⟩;have HB:Hid (SrtI.sorted (keys (inF sh a))=B):=hB;rw[hB]at hGc';have HG':Hid (∀(j:Nat) x,B[j]?=some x→∃g cap,v44 = .slice (some ⟨g,0,none⟩) B.length cap∧g∈G'∧w5.cell? ⟨g,j,none⟩=some (.int .i64 x)):=hGc';(have hBl:B.length<1099511627776:=by rw[←hB,SrtI.sorted_length];simp[keys];omega);obtain⟨ad44,cp44,e44⟩:=hrow5.shape;rw[hB]at e44;subst e44;obtain⟨PRE,hPRE⟩:∃PRE,(A.take i).flatMap (innerK sh)=PRE:=⟨_,rfl⟩;rw[hPRE]at C5 VP HPRE;clear hrow5 hb5 hG' hGc' hB CR PR hgr hlF c7 hPRE HHW;go_wp2_with fail
    go_loopw [1,46] (fun v1 v46 wr=>∃(j:Nat) (M:ML),v46 = .int .i64 j∧j≤B.length∧IntsAt w v1 (stK sh ps (PRE++(B.take j).map fun n=>(a,n))).2∧CrashR w q mb sh0.fb d.room wr M (stK sh ps (PRE++(B.take j).map fun n=>(a,n))).1∧Prot G w4 wr mb M∧Prot G' w5 wr mb M) (fun _ v46 _=>B.length-(intOf v46).toNat)
    case atStart=>exact⟨0,M,rfl,Nat.zero_le _,by simpa using VP.out,by simpa using C5.out,P5.out,Q5.out⟩
    case round=>
     clear C5 P5 Q5 VP;obtain⟨j,M,rfl,hj,hvp,hcr,hpr,hqr⟩:=hrel;obtain⟨st0,hst0⟩:∃st0,stK sh ps (PRE++(B.take j).map fun n=>(a,n))=st0:=⟨_,rfl⟩;rw[hst0]at hvp hcr;have CR:Hid (CrashR w q mb sh0.fb d.room wr M st0.1):=hcr;have PR:Hid (Prot G w4 wr mb M):=hpr;have QR:Hid (Prot G' w5 wr mb M):=hqr;have VP:Hid (IntsAt w _ st0.2):=hvp;obtain⟨adp,cpp,rfl,hpl1,hpl2,hpcs,hpb⟩:=id hvp;have HST:Hid (stK sh ps (PRE++(B.take j).map fun n=>(a,n))=st0):=hst0;clear hvp hcr hpr hqr hst0;by_cases hjn:j<B.length
     · obtain⟨n,hn⟩:∃n,B[j]?=some n:=⟨_,List.getElem?_eq_getElem hjn⟩
       obtain⟨g',cp',eg,hg',hgc'⟩:=HG'.out j n hn;simp only[Value.slice.injEq]at eg;obtain⟨rfl,_,rfl⟩:=eg;have hgr:=QR.out.cell hg' hgc';(have hjl:(j:Int)<(B.length:Int):=by omega);have hnk:n∈keys (inF sh a):=(mem_sortedI _ _).1 (by rw[HB.out];exact List.mem_of_getElem? hn);obtain⟨x,hx⟩:∃x,mget n (inF sh a)=some x:=by
        have:=mem_keys.1 hnk;exact Option.isSome_iff_exists.1 this
       (have HXF:Hid (fget sh a n=x.vs):=by show _=_;rw[fget_eq,fsGet_in,hx];rfl);have HFA:Hid (fsAt sh a n = .slice (some ⟨x.g,0,none⟩) x.vs.length x.cap):=by
        show _=_;(have:((mget a sh.F).bind fun x=>mget n x.2)=some x:=by have:=fsGet_in sh a n;rw[hx]at this;exact this);unfold fsAt;rw[this];rfl
       (have HOK:Hid (∀W,Below w.heap.size w W→x.ok W):=fun W hW=>inF_vs (held_below HH.out hW) hx);have hxl:x.vs.length≤N∧0<x.vs.length:=by
        have h1:=(HOK.out w (Below.refl _ _)).2.2.2.2;refine⟨?_,List.length_pos_iff.2 h1⟩;have h2:=HR.out.fresh a n;rw[HXF.out]at h2;cases hf:findS a n d.secs with
        |none=>rw[hf]at h2;exact absurd h2 h1
        |some s=>rw[hf]at h2;rw[h2];exact HD.out.bounds.2.2.2.2.2.2.1 s (findS_mem hf)
       have HNX:Hid (stK sh ps (PRE++(B.take (j+1)).map fun n=>(a,n))=cstep (fget sh) st0 (a,n)):=by
        show _=_;rw[List.take_add_one,hn,Option.toList_some,List.map_append,←List.append_assoc,List.map_singleton,stK_snoc,HST.out]
       clear hn hgc' hnk hx;cases hps:st0.2 with
       |nil=>
        (have HPN:Hid ((max (st0.2.headD 0) 0).toNat=0):=by show _=_;rw[hps];rfl);have HVQ:Hid (IntsAt w (.slice adp 0 cpp) (cstep (fget sh) st0 (a,n)).2):=by
         have:=VP.out;rw[hps]at this;show IntsAt w _ st0.2.tail;rw[hps];exact this
        have HHQ:Held wr sh:=held_below HH.out CR.out.below;have c7:=(CR.out.below.cell (p:=⟨p,7,none⟩) hpl).trans C7.out;have hlF:=look_F HHQ a;have hlFi:=look_Fi HHQ a n;rw[HFA.out]at hlFi;have HCS:Hid (∀a' n',st0.1 a' n'=(cstep (fget sh) st0 (a,n)).1 a' n'):=fun a' n'=>by
         show _=(if a'=a∧n'=n then cvOf (st0.2.headD 0) (st0.1 a' n') (fget sh a' n')else st0.1 a' n');by_cases e:a'=a∧n'=n
         · rw[if_pos e,cvOf,pickN,HPN.out]
           simp
         · rw[if_neg e]
        have hz0:Int.tmod 0 ((x.vs.length:Int)+1)=0:=Int.zero_tmod _;simp only[List.length_nil];clear hps hpl1 hpl2 hpcs hpb VP HHQ;go_wp2_with fail
        go_roundw
        case rel=>
         refine⟨j+1,M,by go_num,by omega,by rw[HNX.out];exact HVQ.out,?_,PR.out,QR.out⟩;rw[HNX.out];exact CR.out.ext HCS.out
        case measure=>simp[intOf];omega
       |cons y r=>
        rw[hps]at hpcs hpb hpl1;obtain⟨pb,po,rfl,hpbl,hpc⟩:=hpcs (by simp);have hy0:=(CR.out.below.cell (p:=⟨pb,po,none⟩) hpbl).trans (by simpa using hpc 0 y rfl);obtain⟨hy1,hy2⟩:=hpb y (.head _);obtain⟨pn,hpn⟩:∃pn:Nat,(max y 0).toNat=pn:=⟨_,rfl⟩;(have hmx1:(if y<0 then 0 else y)=(pn:Int):=by split<;>omega);(have hmx2:(if 0<y then y else 0)=(pn:Int):=by split<;>omega);(have hmx3:max y 0=(pn:Int):=by omega);(have HPN:Hid ((max (st0.2.headD 0) 0).toNat=pn):=by show _=_;rw[hps];exact hpn);have HVQ:Hid (IntsAt w (.slice (if cpp=1 then some ⟨pb,po,none⟩else some ⟨pb,po+1,none⟩) r.length (cpp-1)) (cstep (fget sh) st0 (a,n)).2):=by
         have:=VP.out;rw[hps]at this;show IntsAt w _ st0.2.tail;rw[hps];exact this.tail
        simp only[List.length_cons];simp only[List.length_cons]at hpl1;(have hrl:(0:Int)<(r.length:Int)+1:=by omega);clear hps hpl2 hpcs hpb VP hpc hpn;go_wp2_with fail;go_region;obtain⟨adq,hadq⟩:∃adq,(if cpp=1 then some (⟨pb,po,none⟩:Addr)else some ⟨pb,po+1,none⟩)=adq:=⟨_,rfl⟩;rw[hadq]at HVQ;rw[hadq];obtain⟨wq,hwq⟩:∃wq,wr.drew=wq:=⟨_,rfl⟩;rw[hwq];have CQ:Hid (CrashR w q mb sh0.fb d.room wq M st0.1):=hwq▸CR.out.then (Below.refl _ wr).drew;have PQ:Hid (Prot G w4 wq mb M):=hwq▸PR.out.then (Below.refl _ wr).drew;have QQ:Hid (Prot G' w5 wq mb M):=hwq▸QR.out.then (Below.refl _ wr).drew;have HHQ:Held wq sh:=held_below HH.out CQ.out.below;have c7:=(CQ.out.below.cell (p:=⟨p,7,none⟩) hpl).trans C7.out;have hlF:=look_F HHQ a;have hlFi:=look_Fi HHQ a n;rw[HFA.out]at hlFi;have htm:=tmod_nat pn x.vs.length;obtain⟨m,hm⟩:∃m,pn%(x.vs.length+1)=m:=⟨_,rfl⟩;rw[hm]at htm;(have hml:m≤x.vs.length:=by have:=Nat.mod_lt pn (show 0<x.vs.length+1 by omega);omega);have HCS:Hid (∀a' n',(cstep (fget sh) st0 (a,n)).1 a' n'=if a'=a∧n'=n then (if m=0 then st0.1 a' n' else x.vs[m-1]?)else st0.1 a' n'):=fun a' n'=>by
         show(if a'=a∧n'=n then cvOf (st0.2.headD 0) (st0.1 a' n') (fget sh a' n')else st0.1 a' n')=_;by_cases e:a'=a∧n'=n
         · rw[if_pos e,if_pos e,e.1,e.2,HXF.out,cvOf,pickN,HPN.out,hm]
         · rw[if_neg e,if_neg e]
        clear HHQ hm hwq hadq CR PR QR hy0 hgr hmx1 hmx2 hmx3;by_cases h0:m=0
        · subst h0
          go_wp2_with fail
          go_roundw
          case rel=>
           refine⟨j+1,M,by go_num,by omega,by rw[HNX.out];exact HVQ.out,?_,PQ.out,QQ.out⟩;rw[HNX.out];exact CQ.out.ext fun a' n'=>by rw[HCS.out];split<;>rfl
          case measure=>simp[intOf];omega
        · obtain⟨m',rfl⟩:∃m',m=m'+1:=⟨m-1,by omega⟩
          (have hk:m'<x.vs.length:=by omega);(have hw1:IntKind.i64.wrap (m':Int)=(m':Int):=by simp[IntKind.wrap,IntKind.bits,IntKind.signed];omega);(have hw2:(0:Int)≤(m':Int):=by omega);(have hw3:(m':Int)<(x.vs.length:Int):=by omega);have hv64:x.vs[m'].length=64:=(HOK.out w (Below.refl _ _)).2.2.2.1 _ (List.getElem_mem hk);(have HV:Hid (x.vs[m'+1-1]?=some x.vs[m']):=by show _=_;simp[hk]);go_wp2_with fail;have hq6:wq.drew.cell? ⟨q,6,none⟩=some (.map (some mb)):=(disk_cells CQ.out.qb).2.2.2.2.2.2.1;have hSS:SY q mb x wq.drew:=⟨hq6,HOK.out _ CQ.out.below.drew⟩;refine region_at (S:=SY q mb x) 12 rfl (by kernel_rfl) hSS (fun hHeld=>?_);refine tq4 SY.facts 0 74 1 75 2 76 3 77 ?_;simp only[sZa,sZb,sZc];refine tq4 SY.facts 4 78 5 79 6 80 7 81 ?_;simp only[sZa,sZb,sZc];refine tq2 SY.facts 8 82 9 83 ?_;simp only[sZa,sZb,sZc];refine tk (i:=10) (v:=verV x.vs[m']) 84 rfl rfl (by kernel_rfl) (fun W hSw=>?_) ?_
          · refine(exec_load_ver _ (.tmp 83) _ _ _ _ _ W).trans ?_
            show Result.andThen (loadV Tryz.prog (.pointer (some ⟨x.g,_,none⟩)) W) _=_;rw[FS.ok.load hSw.2 hk];rfl
          simp only[sZa,sZb,sZc];have CD:CrashR w q mb sh0.fb d.room wq.drew M st0.1:=CQ.out.then (Below.refl _ wq).drew;refine one_call (i:=11) (w0:=wq.drew) 85 46 #[.map (some mb),.int .u64 a,.int .i64 n,verV x.vs[m']] (by kernel_rfl) rfl rfl (by rfl) (by kernel_rfl) ?_;refine(putL_any mb M a n x.vs[m'] hv64 wq.drew CD.two).mono ?_;rintro e w7 ⟨rfl,hput⟩;obtain⟨M',hC7,hp1,hp2,hp3⟩:=CD.put (g:=(cstep (fget sh) st0 (a,n)).1) hv64 hput (fun a' n'=>by
           rw[HCS.out];by_cases e:a'=a∧n'=n
           · rw[if_pos e,if_pos e,if_neg (by omega)];exact HV.out
           · rw[if_neg e,if_neg e])
          have hS7:SY q mb x w7:=⟨(disk_cells hC7.qb).2.2.2.2.2.2.1,HOK.out _ hC7.below⟩;refine⟨_,rfl,hS7,fun _=>?_⟩;refine wpAnyH_done (by kernel_rfl) ?_ _;have C7':Hid (CrashR w q mb sh0.fb d.room w7 M' (cstep (fget sh) st0 (a,n)).1):=hC7;have P7:Hid (Prot G w4 w7 mb M'):=(PQ.out.then (Below.refl _ wq).drew).put hp1 hp2 hp3;have Q7:Hid (Prot G' w5 w7 mb M'):=(QQ.out.then (Below.refl _ wq).drew).put hp1 hp2 hp3;clear hHeld hput hC7 hp1 hp2 hp3 hS7 CD hSS hq6;go_wp2_with fail
          go_roundw
          (case rel=>exact⟨j+1,M',by go_num,by omega,by rw[HNX.out];exact HVQ.out,by rw[HNX.out];exact C7'.out,P7.out,Q7.out⟩);case measure=>simp[intOf];omega
     · have hjj:j=B.length:=by omega
       subst hjj;have HNE:Hid (st0=stK sh ps ((A.take (i+1)).flatMap (innerK sh))):=by
        show _=_;rw[HPRE.out,←HST.out,List.take_length,innerK,HB.out]
       go_wp2_with fail
       go_roundw
       (case rel=>exact⟨i+1,M,by go_num,by omega,by rw[←HNE.out];exact VP.out,by rw[←HNE.out];exact CR.out,PR.out⟩);case measure=>simp[intOf];omega
  · have hii:i=A.length:=by omega
    subst hii;have HF:Hid (∀a n,(stK sh ps ((A.take A.length).flatMap (innerK sh))).1 a n=(findS a n (crashS ps d.secs)).bind (·.last)):=fun a n=>by
     rw[List.take_length,find_crash HR.out.sorted];have e1:A.flatMap (innerK sh)=freshK d.secs:=by
      rw[←HA.out];exact loop_eq HH.out HR.out (fun a=>strict_sortedI (inF_nodup HH.out a)) (fun a n=>mem_sortedI _ n)
     rw[e1,stK,fold_get (fget sh) d.secs HR.out.sorted (fun s hs=>by rw[HR.out.fresh,findS_self HR.out.sorted hs];rfl) (lget sh) ps (fun s hs=>by rw[HR.out.last,findS_self HR.out.sorted hs];rfl) a n];by_cases hf:(findS a n d.secs).isSome=true
     · rw[if_pos hf]
     · rw[if_neg hf,HR.out.last]
       cases hf2:findS a n d.secs with
       |some s=>rw[hf2]at hf;simp at hf
       |none=>
        have:=find_crash (ps:=ps) HR.out.sorted a n;have hno:findS a n (crashS ps d.secs)=none:=findS_none_of fun t ht hh=>by
         obtain⟨s,hs,e1,e2,_⟩:=crashS_mem ht;have:=findS_self HR.out.sorted hs;rw[←e1,←e2,hh.1,hh.2,hf2]at this;cases this
        rw[←this,hno]
    have HLS:Hid (∀s∈crashS ps d.secs,s.last≠none∧s.fresh=[]):=fun t ht=>by
     refine⟨?_,crashS_fresh ht⟩;obtain⟨s,hs,_,_,⟨h1,h2⟩|⟨_,v,_,_,_,h5⟩⟩:=crashS_mem ht
     · rw[h2]
       exact(HR.out.there s hs).resolve_right fun h=>h h1
     · rw[h5];simp
    have HSM:Hid (sumML M=(crashS ps d.secs).length):=sum_crash CR.out.two.1.nodup (fun p hp=>(CR.out.two.2.1 p hp).nodup) (crashS_sorted HR.out.sorted) (fun s hs=>(HLS.out s hs).1) (fun a n=>(CR.out.get a n).trans (HF.out a n));have hsl:sumML M≤N:=by
     have h1:=crashS_len ps d.secs;have h2:=HD.out.bounds.2.2.2.2.1;rw[HSM.out];omega
    obtain⟨k0,k1,k2,k3,k4,k5,k6,k7,kz⟩:=disk_cells CR.out.qb;have HRG:Hid (∃ob,(Instr.range 70 (.map (some mb))).run Tryz.prog wr = .ok (.pointer (some ⟨wr.heap.size,0,none⟩)) (wr.alloc ob)∧Ranges .u64 inV (wr.alloc ob) (some mb) wr.heap.size M []):=CR.out.two.1.range Tryz.underlying70;clear k0 k1 k2 k3 k4 k5 k7 kz;go_wp2_with (at_range;refine wpList_range_at HRG.out rfl _ rfl rfl ?_);intro ob hrg;have hqw:(wr.alloc ob).heap[q]?=some (dC d.room ((sumML []:Nat):Int) 0 false false 0 mb sh0.fb):=(alloc_old wr ob (Array.getElem?_eq_some_iff.1 CR.out.qb).1).trans CR.out.qb;have hqlt:=(Array.getElem?_eq_some_iff.1 CR.out.qb).1;have Z0:Hid (Ranges .u64 inV (wr.alloc ob) (some mb) wr.heap.size M []∧(wr.alloc ob).heap[q]?=some (dC d.room ((sumML []:Nat):Int) 0 false false 0 mb sh0.fb)∧Below w.heap.size w (wr.alloc ob)∧wr.heap.size<(wr.alloc ob).heap.size∧∀k,k<wr.heap.size→k≠q→(wr.alloc ob).heap[k]?=wr.heap[k]?):=⟨hrg,hqw,CR.out.below.alloc CR.out.below.size ob,by simp,fun k hk _=>alloc_old wr ob hk⟩;clear hrg hqw k6;go_wp2_with fail;obtain⟨wz,rfl⟩:∃wz,wz=wr:=⟨_,rfl⟩
    go_loopw [] (fun wr=>∃done,Ranges .u64 inV wr (some mb) wz.heap.size M done∧wr.heap[q]?=some (dC d.room ((sumML done:Nat):Int) 0 false false 0 mb sh0.fb)∧Below w.heap.size w wr∧wz.heap.size<wr.heap.size∧∀k,k<wz.heap.size→k≠q→wr.heap[k]?=wz.heap[k]?) (fun wr=>M.length-seenAt wr wz.heap.size)
    case atStart=>exact⟨[],Z0.out⟩
    case round=>
     clear Z0;obtain⟨done,hrg,hq1,hbz,hsz,hfz⟩:=hrel;have RG:Hid (Ranges .u64 inV wr (some mb) wz.heap.size M done):=hrg;have HQ1:Hid (wr.heap[q]?=some (dC d.room ((sumML done:Nat):Int) 0 false false 0 mb sh0.fb)):=hq1;have HBZ:Hid (Below w.heap.size w wr∧∀k,k<wz.heap.size→k≠q→wr.heap[k]?=wz.heap[k]?):=⟨hbz,hfz⟩;have hsn:=hrg.seen;have hqge:=CR.out.qge.1;clear hrg hq1 hbz hfz;go_wp2_with (at_next;refine wpList_next_at RG.out rfl _ rfl rfl ?_ ?_)
     · intro hall
       have hse:sumML done=(crashS ps d.secs).length:=(sum_all CR.out.two.1.nodup hsn.2.2.1 (fun p hp=>(CR.out.two.2.1 p hp).nodup) hsn.2.2.2 hall).trans HSM.out
       have HFD:Hid (∃fq,DiskAt N wr q (crashD d ps) fq∧∀b∈fq,w.heap.size≤b):=found_disk CR.out (crashS_sorted HR.out.sorted) HLS.out HF.out (hse▸HQ1.out) HBZ.out.2 r1 r2 (by
        have h1:=crashS_len ps d.secs;have h2:=HD.out.bounds.2.2.2.2.1;omega) (by
        have h1:=crashS_len ps d.secs;have h2:=HD.out.bounds.2.2.2.2.2.1;omega)
       clear hall hse hsn;go_wp2_with fail;go_ret;obtain⟨fq,h1,h2⟩:=HFD.out;exact⟨q,fq,rfl,h1,HBZ.out.1,h2⟩
     · intro k xb xm w' hm hk hr2 ho hen
       (have hqr:q≠wz.heap.size:=by omega);have hq2:w'.drew.heap[q]?=some (dC d.room ((sumML done:Nat):Int) 0 false false 0 mb sh0.fb):=(ho.block q hqr).trans HQ1.out;have hmz:=CR.out.two.2.1 _ hm;have hxm:MapAt .i64 verV w'.drew xb xm:=hmz.same ((ho.block xb (by have:=hmz.lt;simp only at this;omega)).trans (HBZ.out.2 xb hmz.lt (CR.out.new _ hm).2.1));have hsn2:=hr2.seen;have hsum:sumML done+xm.length≤N:=by
        have:=sum_done (M:=M) hsn2.2.2.1 (fun p hp=>(CR.out.two.2.1 p hp).nodup) hsn2.2.2.2;rw[sum_snoc]at this;omega
       have hlen:=hxm.len Tryz.underlying94 3;obtain⟨k0,k1,k2,k3,k4,k5,k6,k7,kz⟩:=disk_cells hq2;have hen':(Instr.entry (.pointer (some ⟨wz.heap.size,0,none⟩))).run Tryz.prog w' = .ok (.tuple #[.int .u64 k,.map (some xb)]) w':=hen;(try rw[show inV (xb,xm) = .map (some xb)from rfl]);have HQ2:Hid (w'.drew.heap[q]?=some (dC d.room ((sumML done:Nat):Int) 0 false false 0 mb sh0.fb)):=hq2;have HR2:Hid (Ranges .u64 inV w' (some mb) wz.heap.size M (done++[(k,xb,xm)])):=hr2;have HO:Hid (OneD wz.heap.size wr w'):=ho;have hmq:mb≠q:=CR.out.ap.1.symm;obtain⟨sd,hsd⟩:∃sd,sumML done=sd:=⟨_,rfl⟩;rw[hsd]at k1 hsum HQ2;have HSD:Hid (sumML done=sd):=hsd;clear hen hmz hxm hr2 ho hm hk hq2 k0 k2 k3 k4 k5 k6 k7 hsd;go_wp2_with fail;go_region
       all_goals
        go_wp2_with fail
        go_roundw
        case rel=>
         refine⟨done++[(k,xb,xm)],?_,?_,?_,?_,?_⟩
         · exact(show Ranges .u64 inV w'.drew (some mb) wz.heap.size M (done++[(k,xb,xm)])from HR2.out).same (Below.heap_setCell _ _ _ _ (by show wz.heap.size≠q;omega)) (fun b hb=>by cases hb;exact Below.heap_setCell _ _ _ _ hmq)
         · rw[sum_snoc,HSD.out]
           have:=set_cell HQ2.out 1 (.int .i64 ((sd:Int)+(xm.length:Int)));exact this
         · exact(HBZ.out.1.trans ⟨HO.out.os,HO.out.tape,HO.out.output,Nat.le_of_eq HO.out.size.symm,fun b hb=>HO.out.block b (by have:=CR.out.below.size;omega)⟩).drew.setCell hqge _
         · have:=HO.out.size
           simp[World.setCell];omega
         · intro b hb hne
           exact(Below.heap_setCell w' ⟨q,1,none⟩ _ b hne).trans ((HO.out.block b (by omega)).trans (HBZ.out.2 b hb hne))
        case measure=>
         have e1:∀u,seenAt (w'.setCell ⟨q,1,none⟩ u).drew wz.heap.size=seenAt w' wz.heap.size:=fun u=>by
          unfold seenAt;rw[show(w'.setCell ⟨q,1,none⟩ u).drew.heap[wz.heap.size]?=w'.heap[wz.heap.size]? from Below.heap_setCell w' ⟨q,1,none⟩ u _ (show wz.heap.size≠q by omega)]
         rw[e1,hsn2.1,hsn.1];have:=hsn2.2.1;rw[List.length_append,List.length_singleton]at this ⊢;omega
end Go.Proofs.YthecngkdmnadoaaGreat

namespace Go.Proofs.YthecngkdmnadoaaGreat
open Go.RowKit
set_option maxRecDepth 100000
theorem new_rdy:Rdy 1 4 (newD 1073741824):=by
 refine⟨⟨List.Pairwise.nil,fun s hs=>(by cases hs),fun s hs=>(by cases hs),fun s hs=>(by cases hs),fun a n v hv=>?_⟩,rfl,rfl,?_,fun s hs=>?_,fun n hn=>?_,rfl,Nat.zero_le _,fun B hB=>?_,by omega,by omega⟩
 · have:(some v:Option (List Nat))=none:=(ver_none rfl).1 hv
   cases this
 · trivial
 · cases hs
 · cases hn
 · cases hB
set_option maxHeartbeats 4000000 in
theorem synced5_walk(v0 v1:Value)(w:World)(L:List Op5)(hS:Script5 w v0 L)(ps:List Int)(hP:IntsAt w v1 ps)(hL:4*L.length≤1048576)(hx:∀o∈L,o.xs.length≤1048576):
 Calls Tryz.prog 5 #[v0,v1] w fun e w'=>e = .returned (.bool true)∧Below w.heap.size w w':=by
 have HP:Hid (IntsAt w v1 ps):=hP;have HSC:Hid (Script5 w v0 L∧∀o∈L,o.xs.length≤1048576):=⟨hS,hx⟩;clear hP hS hx;go_enter Tryz.func5,Tryz.ntmps5;go_wp2_with fail;refine(New_any 1073741824 w (by omega) (by omega)).mono ?_;rintro e w1 ⟨p,fp,rfl,hd1,hb1,hf1⟩;have HD1:Hid (DiskAt 0 w1 p (newD 1073741824) fp∧Below w.heap.size w w1∧∀b∈fp,w.heap.size≤b):=⟨hd1,hb1,hf1⟩;clear hd1 hb1 hf1;go_wp2_with fail;refine(alive5_any w1).mono ?_;rintro e w2 ⟨rfl,hb2⟩;have HD2:Hid (DiskAt 0 w2 p (newD 1073741824) fp∧Below w.heap.size w w2):=⟨HD1.out.1.below hb2,HD1.out.2.1.trans (hb2.mono HD1.out.2.1.size)⟩;clear hb2;go_wp2_with fail;refine(lawcut_any w 0 p 4 (newD 1073741824) fp (-1) v0 L w2 HD2.out.1 HD2.out.2 HD1.out.2.2 new_rdy HSC.out.1 (by omega) (by omega) HSC.out.2 (by omega) (by omega)).mono ?_;rintro e w3 ⟨M,wv,d3,fp3,rfl,hb3,hd3,hf3,hcut,hwas⟩;obtain⟨g,rfl,hcp⟩:∃g,g.d=d3∧CutP 1 (4+L.length) (-1) g M:=by
  rcases hcut with⟨_,h,_⟩|h
  · omega
  · exact h
 obtain⟨hrdy,_⟩:=hcp.again (by omega) (by omega) (hcp.un (by omega));obtain⟨g2,hg2,hcp2,hfo⟩:=hrdy.cut;have htold:=hcp.told hfo;have hne:0<M.length:=by
  cases hM:M with
  |nil=>have:=hcp.last;rw[hM]at this;cases this
  |cons a l=>exact Nat.succ_pos _
 obtain⟨n,hn⟩:∃n,M.length=n+1:=⟨M.length-1,by omega⟩;have hlast:M[n]?=some (g.first,g.L):=by
  have:=hcp.last;rw[List.getLast?_eq_getElem?,hn]at this;exact this
 obtain⟨wb,wc,lv,rfl,hwc,hwb,hwB,c0,c1,hlv⟩:=hwas.at hlast;rw[hn]at hwas hwc ⊢;have en:(((n+1:Nat):Int)==0)=false:=by rw[beq_eq_false_iff_ne];omega
 have HC:Hid (DiskAt (4+L.length*301000) w3 p g.d fp3∧Below w.heap.size w w3∧∀x∈fp3,w.heap.size≤x):=⟨hd3.mono (by omega),hb3,hf3⟩;have HR:Hid (Rdy 1 (4+L.length) g.d∧openG g.d 0 1=(0,g2)):=⟨hrdy,hg2⟩;have HW:Hid (WasX fp3 w.heap.size w3 (.slice (some ⟨wb,0,none⟩) (n+1) wc) M∧M[n]?=some (g.first,g.L)∧M.length=n+1):=⟨hwas,hlast,hn⟩;have HG2:Hid (CutP 1 (4+L.length) (-1) g2 [(g2.first,g2.L)]∧FitsP g2.first g2.L g.first g.L):=⟨hcp2,htold⟩;have HMN:Hid (n≤1048576):=by have:=hcp.many;show _≤_;omega
 have HGB:Hid (g.first+g.L.length≤4+L.length):=hcp.sm.fl;clear hwas hlast hd3 hb3 hf3 hcut hrdy hg2 hcp2 hfo htold hwb c0 c1 hlv hne hn HD1 HD2 hcp hwB;have HO:Hid (Calls Tryz.prog 12 #[.pointer (some ⟨p,0,none⟩),.int .u64 0,.int .u64 1] w3 (OpAt (4+L.length*301000+(4+L.length)) p g2 fp3 w3)):=HR.out.1.at HC.out.1 (by omega) HR.out.2;go_wp2_with fail;refine HO.out.mono ?_;rintro e w4 ⟨b,v,fp4,s4,rfl,hl4,hp4,ho4,hk4⟩;have HS4:Hid (Since w (4+L.length*301000+(4+L.length)) w4 b p g2 v fp4 s4):=OpAt.since hl4 hp4 ho4 hk4 HC.out.2.1 HC.out.2.2;have HW4:Hid (WasX (logF b v fp4) w.heap.size w4 (.slice (some ⟨wb,0,none⟩) (n+1) wc) M):=HW.out.1.step ho4 hk4;clear hl4 hp4 ho4 hk4;go_wp2_with fail;have hsl:=HG2.out.1.sm.many;refine(Sync_log _ b g2 v fp4 s4 w4 HS4.out.log (HG2.out.1.sm.lok (by omega)) (by omega)).mono ?_;rintro e w5 ⟨rfl,v5,fp5,s5,hl5,hp5,ho5,hk5⟩;have hstep:=HG2.out.1.step (kd:=1) (z:=0) (x:=[]) (by omega) (by omega) (by omega) (fun y hy=>by cases hy);have hdg:doesG g2 1 0 []=syncG g2:=by unfold doesG;rw[if_neg (by decide),if_pos rfl]
 rw[hdg]at hstep;have hun:=un_does (HG2.out.1.un (by omega)) 1 0 [];rw[hdg]at hun;have hdr:doR (g2.first,g2.L) 1 0 []=(0,(g2.first,g2.L)):=by unfold doR;rw[if_neg (by decide),if_neg (by decide),if_neg (by decide)]
 rw[hdr,if_pos rfl]at hstep;obtain⟨hs0,hcp5⟩:(syncG g2).1=0∧CutP 1 (4+L.length+1) (-1) (syncG g2).2 [(g2.first,g2.L)]:=by
  rcases hstep with⟨q1,_⟩|⟨_,q2,_,_,q5⟩
  · rw[hun.1]at q1;cases q1
  · exact⟨q2,q5⟩
 obtain⟨hrdy,r6,hr6,hfit6⟩:=hcp5.disk.crash (by omega) (by omega) ps;obtain⟨g6,hg6,hcp6,hfo6⟩:=hrdy.cut;have htold6:=(hfit6.told hfo6);rw[List.mem_singleton.1 hr6]at htold6;have HD5:Hid (DiskAt (4+L.length*301000+(4+L.length)+g2.l.length+32) w5 p (syncG g2).2.d fp5∧Below w.heap.size w w5):=⟨by have:=hl5.disk;rwa [hp5,HS4.out.p]at this,HS4.out.below.trans (ho5.below HS4.out.below.size HS4.out.new)⟩;have HW5:Hid (WasX (logF b v5 fp5) w.heap.size w5 (.slice (some ⟨wb,0,none⟩) (n+1) wc) M):=HW4.out.step ho5 hk5;have HF6:Hid (FitsP g6.first g6.L g.first g.L∧CutP 1 (4+L.length+1) (-1) g6 [(g6.first,g6.L)]):=⟨htold6.trans HG2.out.2,hcp6⟩;have HR6:Hid (Rdy 1 (4+L.length+1) (crashD (syncG g2).2.d ps)∧openG (crashD (syncG g2).2.d ps) 0 1=(0,g6)):=⟨hrdy,hg6⟩;rw[hs0];generalize (syncG g2).2.d=d5 at *;clear hl5 hp5 ho5 hk5 hdg hun hdr hstep hs0 hcp5 hrdy hr6 hfit6 hg6 hcp6 hfo6 htold6 HW4 HS4 HR HC;go_wp2_with fail;refine(Crash_any _ p d5 fp5 v1 ps w5 HD5.out.1 (HP.out.below HD5.out.2) (by omega)).mono ?_;rintro e w6 ⟨q,fq,rfl,hc6,hb6,hf6⟩;have HC6:Hid (DiskAt (4+L.length*301000+(4+L.length)+g2.l.length+32) w6 q (crashD d5 ps) fq∧Below w.heap.size w w6∧∀k∈fq,w.heap.size≤k):=⟨hc6,HD5.out.2.trans (hb6.mono HD5.out.2.size),fun k hk=>Nat.le_trans HD5.out.2.size (hf6 k hk)⟩;have HW6:Hid (WasX fq w.heap.size w6 (.slice (some ⟨wb,0,none⟩) (n+1) wc) M):=HW5.out.step (Only.of_below hb6) (fun k hk => .inr (hf6 k hk));clear hc6 hb6 hf6 HW5 HD5;have HO:Hid (Calls Tryz.prog 12 #[.pointer (some ⟨q,0,none⟩),.int .u64 0,.int .u64 1] w6 (OpAt (4+L.length*301000+(4+L.length)+g2.l.length+32+(4+L.length+1)) q g6 fq w6)):=HR6.out.1.at HC6.out.1 (by omega) HR6.out.2;go_wp2_with fail;refine HO.out.mono ?_;rintro e w7 ⟨b7,v7,fp7,s7,rfl,hl7,hp7,ho7,hk7⟩;have HS7:Hid (Since w (4+L.length*301000+(4+L.length)+g2.l.length+32+(4+L.length+1)) w7 b7 q g6 v7 fp7 s7):=OpAt.since hl7 hp7 ho7 hk7 HC6.out.2.1 HC6.out.2.2;have HW7:Hid (WasX fq w.heap.size w7 (.slice (some ⟨wb,0,none⟩) (n+1) wc) M):=HW6.out.step ho7 (fun k hk => .inl hk);clear hl7 hp7 ho7 hk7 HO HW6 HC6 HR6;go_wp2_with fail;obtain⟨wb',wc',lv',hwe,hwc',hwb,hwB,c0,c1,hlv⟩:=HW7.out.at HW.out.2.1;rw[HW.out.2.2]at hwe;simp only[Value.slice.injEq,Option.some.injEq,Addr.mk.injEq]at hwe;obtain⟨⟨rfl,_,_⟩,_,rfl⟩:=hwe;obtain⟨Ra,m,Rc,rfl⟩:∃Ra m Rc,lv' = .slice Ra m Rc:=by
  obtain⟨ao,cap,e,_⟩:=hlv;exact⟨ao,_,cap,e⟩
 have HLV:Hid (StrsR w7 (.slice Ra m Rc) g.L):=hlv;have HAL:Hid (∀W,Since w (4+L.length*301000+(4+L.length)+g2.l.length+32+(4+L.length+1)) W b7 q g6 v7 fp7 s7→Calls Tryz.prog 18 #[.pointer (some ⟨b7,0,none⟩)] W fun e w'=>Below W.heap.size W w'∧∃sv,e = .returned sv∧StrOwn W.heap.size w' sv g6.L):=fun W hW=>all5_any w _ b7 q g6 v7 fp7 s7 W hW (by have:=HF6.out.2.sm.fl;omega) (fun x hx=>Nat.le_trans (HF6.out.2.rec' x hx) (by omega))
 have HFT:Hid (∀W lv,StrsR W lv g6.L→StrsR W (.slice Ra m Rc) g.L→Calls Tryz.prog 17 #[.int .u64 (g6.first:Int),lv,.agg #[.int .u64 (g.first:Int),.slice Ra m Rc]] W fun e w'=>Below W.heap.size W w'∧e = .returned (.bool true)):=fun W lv h1 h2=>
  (Fits_any W g6.first g.first g6.L g.L lv (.slice Ra m Rc) h1 h2 (by have:=HF6.out.2.sm.fl;omega) (by have:=HGB.out;omega) (by have:=HF6.out.2.sm.fl;omega) (by have:=HGB.out;omega)).mono (fun e w' ⟨h3,t,h4,h5⟩=>⟨h3,by rw[h4,h5 HF6.out.1]⟩)
 have HFI:Hid (∀W,Since w (4+L.length*301000+(4+L.length)+g2.l.length+32+(4+L.length+1)) W b7 q g6 v7 fp7 s7→Calls Tryz.prog 16 #[.pointer (some ⟨b7,0,none⟩)] W fun e w'=>e = .returned (.int .u64 (g6.first:Int))∧w'=W):=fun W hW=>first_since hW _ rfl
 have HWB:Hid (wb<w7.heap.size):=hwb;have hS7:S2L wb (n*2) g.first Ra m Rc w7.drew:=⟨c0,c1⟩;obtain⟨fi,hfi⟩:∃fi,g.first=fi:=⟨_,rfl⟩;rw[hfi]at hS7 HFT;clear c0 c1 hlv hwc' hwB hwb HW HW7 HG2 HGB hfi;have hnn:¬(n:Int)+1≤(n:Int):=by omega
 have hwn:IntKind.i64.wrap (n:Int)=(n:Int):=by
  have:=HMN.out;simp only[IntKind.wrap,IntKind.bits,IntKind.signed];simp;omega
 refine region_at (S:=S2L wb (n*2) fi Ra m Rc) 16 rfl (by kernel_rfl) hS7 (fun hHeld=>?_);refine tq S2L.facts 0 54 ?_;simp only[sZa,sZb,sZc];refine tk (i:=1) (v := .bool true) 55 rfl rfl (by kernel_rfl) (fun _ s=>by(have h:=S2L.facts s;clear s;go_simp;first|done|exact rfl|simp_all|(simp;omega))) ?_;simp only[sZa,sZb,sZc];refine tq4 S2L.facts 2 56 3 57 5 59 7 61 ?_;simp only[sZa,sZb,sZc];refine tq2 S2L.facts 8 62 9 63 ?_;simp only[sZa,sZb,sZc];refine tk (i:=10) (v := .int .i64 (n:Int)) 64 rfl rfl (by kernel_rfl) (fun _ s=>by(have h:=S2L.facts s;clear s;go_simp;first|done|exact rfl|simp_all|(simp;omega))) ?_;simp only[sZa,sZb,sZc];refine tk (i:=11) (v := .pointer (some ⟨wb,n*2,none⟩)) 65 rfl rfl (by kernel_rfl) (fun _ s=>by(have h:=S2L.facts s;clear s;go_simp;first|done|exact rfl|simp_all|(simp;omega))) ?_;simp only[sZa,sZb,sZc];refine tq S2L.facts 12 66 ?_;simp only[sZa,sZb,sZc];refine one_call (i:=4) (w0:=w7.drew) 58 16 #[.pointer (some ⟨b7,0,none⟩)] (by kernel_rfl) rfl rfl (by rfl) (by kernel_rfl) ?_;refine(HFI.out _ (HS7.out.on (Below.refl _ w7).drew)).mono ?_;rintro e w8 ⟨rfl,rfl⟩;refine⟨_,rfl,hS7,fun hHeld1=>?_⟩;simp only[sZa,sZb,sZc];refine one_call (i:=6) (w0:=w7.drew) 60 18 #[.pointer (some ⟨b7,0,none⟩)] (by kernel_rfl) rfl rfl (by rfl) (by kernel_rfl) ?_;refine(HAL.out _ (HS7.out.on (Below.refl _ w7).drew)).mono ?_;rintro e w8 ⟨hb8,sv,rfl,hsv⟩;have hS8:S2L wb (n*2) fi Ra m Rc w8:=hS7.below hb8 HWB.out;have HB8:Hid (Below w7.heap.size w7 w8):=(Below.refl _ w7).drew.trans hb8;have HSV:Hid (StrsR w8 sv g6.L):=hsv.read;refine⟨_,rfl,hS8,fun hHeld2=>?_⟩;simp only[sZa,sZb,sZc];clear hHeld hHeld1 hS7 hb8 hsv;refine one_call (i:=13) (w0:=w8) 67 17 #[.int .u64 (g6.first:Int),sv,.agg #[.int .u64 (fi:Int),.slice Ra m Rc]] (by kernel_rfl) rfl rfl (by rfl) (by kernel_rfl) ?_;refine(HFT.out _ sv HSV.out (HLV.out.below HB8.out)).mono ?_;rintro e w9 ⟨hb9,rfl⟩;have hS9:S2L wb (n*2) fi Ra m Rc w9:=hS8.below hb9 (Nat.lt_of_lt_of_le HWB.out HB8.out.size);have HB9:Hid (Below w7.heap.size w7 w9):=HB8.out.trans (hb9.mono HB8.out.size);refine⟨_,rfl,hS9,fun hHeld3=>?_⟩;simp only[sZa,sZb,sZc];refine tk (i:=14) (v := .bool true) 68 rfl rfl (by kernel_rfl) (fun _ s=>by(have h:=S2L.facts s;clear s;go_simp;first|done|exact rfl|simp_all|(simp;omega))) ?_;simp only[sZa,sZb,sZc];refine tq S2L.facts 15 4 ?_;simp only[sZa,sZb,sZc];refine wpAnyH_done (by kernel_rfl) ?_ _;clear hHeld2 hHeld3 hS8 hS9 hb9;go_wp2_with fail;go_ret;exact⟨rfl,HS7.out.below.trans (HB9.out.mono HS7.out.below.size)⟩
end Go.Proofs.YthecngkdmnadoaaGreat
