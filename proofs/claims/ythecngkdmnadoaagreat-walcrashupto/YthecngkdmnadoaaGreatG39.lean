/- Texts that were written apart, joined. -/
import Derived.Test.YthecngkdmnadoaaGreatG38
namespace Go.Proofs.YthecngkdmnadoaaGreat
open Go.RowKit
set_option maxRecDepth 100000
theorem LayT.first{d:DS}{n ix:Nat}{r0:List (List Nat)}(hd:SOk d.secs)(hal:d.dead=false)(hfree:∀s∈d.secs,s.area≠arN n)(hix:ix≤2305843009213693952)(hl:(segP (ix,r0)).length≤600)(hb:∀y∈segP (ix,r0),y<256)(hr:(d.secs.length:Int)+60<d.room)(hn:n≤1152921504606846976):
 LayT d (4*n+1) (segP (ix,r0)) 0 (uw ix).length (layR d (4*n+1) 0 (segP (ix,r0))):=by
 have hnone:∀i:Nat,findS ((4*n+1:Nat):Int) (i:Int) d.secs=none:=fun i=>findS_none_of fun s hs e=>hfree s hs e.1
 have huw:(uw ix).length≤10:=(uw_len10 (by omega)).2
 have h1:=lay_text (d:=d) (a:=4*n+1) (P:=[]) (x:=segP (ix,r0)) (m:=0) (h:=(uw ix).length) hd hal (fun i o ho => .inl ⟨(ver_none (hnone i)).1 ho,Nat.zero_le _⟩) (fun i => .inl ⟨by unfold curOf;rw[hnone i];rfl,Nat.zero_le _⟩) (Nat.zero_le _)
  (by rw[List.nil_append,segP_len];exact Nat.le_add_right _ _) (by omega) (by rw[List.nil_append];omega) (by rw[List.nil_append];omega) (by rw[List.nil_append];exact hb) (by omega)
 exact h1
theorem LI.begin{f0:Nat}{g:LG}{segs:List SegN}{cu:CuN}(h:LI f0 g segs cu){ix:Nat}{r0:List (List Nat)}(hr0:∀x∈r0,x.length≤512∧∀y∈x,y<256)(hl0:(segP (ix,r0)).length≤600)(h1:g.first≤ix)(h2:ix≤g.first+g.L.length)(hixs:ix≤2305843009213693952)(hroom:(g.d.secs.length:Int)+120<g.d.room)(hn:g.next<1152921504606846976):
 (((beginG g ix (recsW r0)).1=30∧(beginG g ix (recsW r0)).2.d.dead=true∧(SI (beginG g ix (recsW r0)).2.d segs cu∨SI (beginG g ix (recsW r0)).2.d (segs++cuL cu) (some ((g.next,(ix,r0)),none))∨∃m,SI (beginG g ix (recsW r0)).2.d (remS ix m (segs++cuL cu)) (some ((g.next,(ix,r0)),some r0.length)))) ∨
  ((beginG g ix (recsW r0)).1=0∧∃kd,((kd=none∧remS ix 0 (segs++cuL cu)=segs++cuL cu)∨kd=some r0.length)∧∀newL,Tells f0 (some (nxt (fo none (srs (segs++cuL cu))) (ix,r0))) g.first newL→LI f0 { (beginG g ix (recsW r0)).2 with L:=newL } (remS ix 0 (segs++cuL cu)) (some ((g.next,(ix,r0)),kd)))) ∧
 (beginG g ix (recsW r0)).2.d.room=g.d.room∧(beginG g ix (recsW r0)).2.d.secs.length≤g.d.secs.length+60:=by
 have hdata:uw ix++recsW r0=segP (ix,r0):=rfl;obtain⟨all,hall⟩:∃all,segs++cuL cu=all:=⟨_,rfl⟩;have hnext:=h.next
 have hlog:=h.log;have hpls:=h.pls;rw[hall]at hnext hlog hpls ⊢;have hsyn:=h.synced;rw[hall]at hsyn;have hsi:=h.si;have hal:=h.live;have hfa:=h.fault;obtain⟨P,hP⟩:∃P,segP (ix,r0)=P:=⟨_,rfl⟩;have hPl:P.length≤600:=by rw[←hP];exact hl0
 have hfit:fitsE g.d 0 (uw ix++recsW r0).length=0:=by
  rw[hdata,hP];exact fits_none hal (by omega)
 have hPb:∀y∈P,y<256:=by
  rw[←hP];intro y hy;rcases List.mem_append.1 hy with h3|h3
  · exact uw_byte _ y h3
  · obtain⟨x,hx,hy2⟩:=List.mem_flatMap.1 h3
    rcases List.mem_append.1 hy2 with h4|h4
    · exact uw_byte _ y h4
    · exact(hr0 x hx).2 y h4
 have hbg:∀A:Int×LG→Prop,(stepE g.d=30→A (stepE g.d,{ g with d:=syD g.d g.area }))→(stepE g.d=0→A (if ¬(layR (syD g.d g.area) (4*g.next+1) 0 P).e=0 then ((layR (syD g.d g.area) (4*g.next+1) 0 P).e,{ g with d:=(layR (syD g.d g.area) (4*g.next+1) 0 P).d })
  else if ¬(ffR (layR (syD g.d g.area) (4*g.next+1) 0 P).d (arN g.next) ix g.l).1=0 then ((ffR (layR (syD g.d g.area) (4*g.next+1) 0 P).d (arN g.next) ix g.l).1,{ g with d:=(ffR (layR (syD g.d g.area) (4*g.next+1) 0 P).d (arN g.next) ix g.l).2 })
  else (0,{ g with d:=(ffR (layR (syD g.d g.area) (4*g.next+1) 0 P).d (arN g.next) ix g.l).2,area:=4*g.next+1,sector:=(layR (syD g.d g.area) (4*g.next+1) 0 P).sector,tl:=(layR (syD g.d g.area) (4*g.next+1) 0 P).tail.getD [],l:=keepQ ix g.l++[(g.next,ix)],next:=g.next+1,adrift:=false })))→A (beginG g ix (recsW r0)):=by
  intro A ha hb;unfold beginG;rw[if_neg (by omega),if_neg (by rw[hfit];decide),hdata,hP];rcases step_alive hal with⟨s1,_⟩|⟨s1,_⟩
  · rw[if_neg (by rw[s1];decide)]
    exact hb s1
  · rw[if_pos (by rw[s1];decide)]
    exact ha s1
 refine hbg (fun b=>((b.1=30∧b.2.d.dead=true∧(SI b.2.d segs cu∨SI b.2.d all (some ((g.next,(ix,r0)),none))∨∃m,SI b.2.d (remS ix m all) (some ((g.next,(ix,r0)),some r0.length)))) ∨
  (b.1=0∧∃kd,((kd=none∧remS ix 0 all=all)∨kd=some r0.length)∧∀newL,Tells f0 (some (nxt (fo none (srs all)) (ix,r0))) g.first newL→LI f0 { b.2 with L:=newL } (remS ix 0 all) (some ((g.next,(ix,r0)),kd))))∧b.2.d.room=g.d.room∧b.2.d.secs.length≤g.d.secs.length+60) (fun s30=>?_) (fun s0=>?_)
 · rcases hsyn with⟨t1,_⟩|⟨t1,t2,t3,t4,t5⟩
   · rw[t1]at s30;cases s30
   · exact⟨.inl ⟨s30,t3,.inl t2⟩,t4,by show(syD g.d g.area).secs.length≤_;omega⟩
 rcases hsyn with⟨t1,t2,t3,t4,t5⟩|⟨t1,_⟩
 rotate_left
 · rw[t1]at s0;cases s0
 obtain⟨d1,hd1⟩:∃d1,syD g.d g.area=d1:=⟨_,rfl⟩;rw[hd1]at t2 t3 t4 t5 ⊢;have e0:all++cuL none=all:=List.append_nil _;have hsub1:=t2.sub;have hasc1:=t2.asc;have hsm1:=t2.sm;have hch1:=t2.chain;rw[e0]at hsub1 hasc1 hsm1 hch1;have hB:∀B,fo none (srs all)=some B→B.1≤ix∧ix≤B.1+B.2.length:=by
  intro B hB;rw[hB]at hlog;obtain⟨l1,l2,l3⟩:=hlog;have:=congrArg List.length l3;rw[List.length_drop]at this;omega
 have hfree:∀s∈d1.secs,s.area≠arN g.next:=by
  intro s hs e;obtain⟨n1,_⟩:=nums_mem t2.ok.sorted (fun s hs=>(t2.ok.area s hs).1);have:=hsub1 g.next ((n1 _).2 ⟨s,hs,e⟩)
  obtain⟨x,hx,he⟩:=List.mem_map.1 this;have:=hnext x hx;omega
 have hT:=LayT.first (d:=d1) (n:=g.next) (ix:=ix) (r0:=r0) t2.ok t3 hfree hixs hl0 (by rw[hP];exact hPb) (by omega) (by omega);rw[hP]at hT;obtain⟨r,hr⟩:∃r,layR d1 (4*g.next+1) 0 P=r:=⟨_,rfl⟩;rw[hr]at hT ⊢;have hxs:SmS (ix,r0):=⟨hixs,fun x hx=>(hr0 x hx).1,by show(segP (ix,r0)).length<_;omega⟩;have hascx:((all++[(g.next,(ix,r0))]).map (·.1)).Pairwise (·<·):=by
  rw[List.map_append,List.pairwise_append];refine⟨hasc1,List.pairwise_singleton _ _,fun a ha b hb=>?_⟩;obtain⟨x,hx,rfl⟩:=List.mem_map.1 ha;have hb2:b=g.next:=by simpa using hb
  rw[hb2];exact hnext x hx
 have hrf:=fun m=>rem_fold (l:=all) m r0 hch1 hB
 have hrall:=hrf all.length;rw[rem_all]at hrall;have hS2:SI r.d all (some ((g.next,(ix,r0)),none)):=by
  refine SI.write (x:=(g.next,(ix,r0))) (P:=P) (m:=0) (h:=(uw ix).length) t2.ok (fun n hn=>?_) hascx t2.dur (fun y hy=>?_) (fun k hk=>by cases hk) ?_ hT hP.symm rfl rfl
  · rw[List.map_append]
    exact List.mem_append_left _ (hsub1 n hn)
  · rcases List.mem_append.1 hy with h3|h3
    · exact hsm1 y h3
    · rw[List.mem_singleton.1 h3];exact hxs
  · rw[srs_append]
    exact hrall.1
 have hrlen:r.d.secs.length≤g.d.secs.length+60:=by
  have:=hT.len;omega
 have hrroom:r.d.room=g.d.room:=hT.room.trans t4;rcases hT.e with⟨r1,r2⟩|⟨r1,r2⟩
 rotate_left
 · rw[if_pos (by rw[r1];decide)]
   exact⟨.inl ⟨r1,r2,.inr (.inl hS2)⟩,hrroom,hrlen⟩
 rw[if_neg (by rw[r1];decide)];obtain⟨sg1,sg2⟩:=hT.seg r1;have hcur2:∀i:Nat,OkV (segP (ix,r0)) (segP (ix,r0)).length (uw ix).length i (curOf r.d.secs (arN g.next) (i:Int)):=by
  rw[hP];exact hT.cur r1
 have hplsm:g.l=all.map plS:=hpls
 have hfin:∀(d3:DS) (kd:Option Nat),SI d3 (remS ix 0 all) (some ((g.next,(ix,r0)),kd))→d3.dead=false→(∀i:Nat,curOf d3.secs (arN g.next) (i:Int)=curOf r.d.secs (arN g.next) (i:Int))→∀newL,Tells f0 (some (nxt (fo none (srs all)) (ix,r0))) g.first newL →
  LI f0 { ({ g with d:=d3,area:=4*g.next+1,sector:=r.sector,tl:=r.tail.getD [],l:=keepQ ix g.l++[(g.next,ix)],next:=g.next+1,adrift:=false }:LG)with L:=newL } (remS ix 0 all) (some ((g.next,(ix,r0)),kd)):=by
  intro d3 kd k1 k2 k3 newL k4;refine⟨k1,k2,hfa,rfl,?_,(fun e=>by cases e),fun y k e=>?_,fun y hy=>?_,?_⟩
  · show keepQ ix g.l++[(g.next,ix)]=(remS ix 0 all++[(g.next,(ix,r0))]).map plS
    rw[hplsm,keepQ_rem,List.map_append];rfl
  · simp only[Option.some.injEq,Prod.mk.injEq]at e
    obtain⟨rfl,rfl⟩:=e;refine⟨rfl,fun i=>?_,by show r.sector=(segP (ix,r0)).length/63;rw[hP];exact sg1,by show r.tail.getD []=(segP (ix,r0)).drop (63*((segP (ix,r0)).length/63));rw[hP,sg2];rfl,by show ∀y∈segP (ix,r0),y<256;rw[hP];exact hPb⟩;show OkV (segP (ix,r0)) _ _ i (curOf d3.secs (arN g.next) (i:Int));rw[k3 i];exact hcur2 i
  · rcases List.mem_append.1 hy with h3|h3
    · have hm:y∈all:=(List.mem_filter.1 h3).1
      have:=hnext y hm;show y.1<g.next+1
      omega
    · have h3':y∈[((g.next,(ix,r0)):SegN)]:=h3
      rw[List.mem_singleton.1 h3'];exact Nat.lt_succ_self _
  · show Tells f0 (fo none (srs (remS ix 0 all++[(g.next,(ix,r0))]))) g.first newL
    have e2:srs (remS ix 0 all++[(g.next,(ix,r0))])=srs (remS ix 0 all)++[(ix,r0)]:=srs_append _ _;rw[e2,fo_snoc,(hrf 0).2];exact k4
 unfold ffR;by_cases hany:(g.l.any fun x=>decide (ix≤x.2))=true
 · rw[if_pos hany]
   rcases sy_alive r2 (arN g.next)with⟨u1,u2,u3,u4⟩|⟨u1,u2,u3,u4⟩
   · rw[if_pos u1]
     have hS3:=(hS2.sync hcur2 u2).1;(have hl3:(syD r.d (arN g.next)).secs.length=r.d.secs.length:=by rw[u2];exact List.length_map ..);have hbm:=back_main ix all (some ((g.next,(ix,r0)),some r0.length)) (fun m=>by
      rw[srs_append];exact(hrf m).1) all.length (syD r.d (arN g.next)) (Nat.le_refl _) (by rw[rem_all];exact hS3) u3
     (have etk:(all.map plS).take all.length=g.l:=by rw[hplsm];exact List.take_of_length_le (by rw[List.length_map];exact Nat.le_refl _));rw[etk]at hbm;obtain⟨q1,q2,q3,q4⟩:=hbm;rcases q1 with⟨v1,v2,v3⟩|⟨v1,v2,v3⟩
     · rw[if_neg (by rw[v1];decide)]
       refine⟨.inr ⟨rfl,some r0.length,.inr rfl,hfin _ _ v3 v2 fun i=>?_⟩,q2.trans (u4.trans hrroom),by show(frsR (syD r.d (arN g.next)) (behR ix g.l)).2.secs.length≤_;omega⟩;rw[q4 (arN g.next) (fun x hx e=>by have:=hnext x hx;have:=numArea.1 e;omega) (i:Int),u2,vcur_sy]
     · rw[if_pos (by rw[v1];decide)]
       exact⟨.inl ⟨v1,v2,.inr (.inr v3)⟩,q2.trans (u4.trans hrroom),by show(frsR (syD r.d (arN g.next)) (behR ix g.l)).2.secs.length≤_;omega⟩
   · have u1n:¬stepE r.d=0:=by rw[u1];decide
     rw[if_neg u1n,if_pos u1n];refine⟨.inl ⟨u1,u3,.inr (.inl (hS2.secs u2))⟩,u4.trans hrroom,?_⟩;show(syD r.d (arN g.next)).secs.length≤_;rw[u2];exact hrlen
 · rw[if_neg hany,if_neg (by simp)]
   have hkeep:remS ix 0 all=all:=by
    rw[rem_zero];(refine List.filter_eq_self.2 fun x hx=>?_);(have hn2:¬∃y∈g.l,decide (ix≤y.2)=true:=fun he=>hany (List.any_eq_true.2 he));refine decide_eq_true ?_;by_cases hc:ix≤x.2.1
    · exact absurd ⟨plS x,by rw[hplsm];exact List.mem_map.2 ⟨x,hx,rfl⟩,decide_eq_true hc⟩ hn2
    · omega
   exact⟨.inr ⟨rfl,none,.inl ⟨rfl,hkeep⟩,hfin _ _ (by rw[hkeep];exact hS2) r2 fun _=>rfl⟩,hrroom,hrlen⟩
end Go.Proofs.YthecngkdmnadoaaGreat

namespace Go.Proofs.YthecngkdmnadoaaGreat
open Go.RowKit
set_option maxRecDepth 100000
theorem MO.whole{f0:Nat}{M:List SR}{d:DS}{segs:List SegN}{cu:CuN}(h:MO f0 M segs cu)(hs:SI d segs cu):∃r∈M,FitsO f0 (fo none (srs (segs++cuL cu))) r:=by
 cases hcu:cu with
 |none=>
  have e:segs++cuL none=segs:=List.append_nil _;rw[e];exact h.out (.inl hcu)
 |some c=>
  obtain⟨x,kd⟩:=c;obtain⟨r,h1,h2⟩:=h.inn x kd hcu x.2.2.length (Nat.le_refl _) (fun d hd=>by subst hd;exact hs.kdle x d hcu);rw[List.take_length]at h2;refine⟨r,h1,?_⟩;have e:srs (segs++cuL (some (x,kd)))=srs segs++[(x.2.1,x.2.2)]:=srs_append _ _;rw[e];exact h2
theorem MO.new{f0:Nat}{M:List SR}{all:List SegN}{n ix m:Nat}{r0:List (List Nat)}{kd:Option Nat}(hch:ch none (srs all))(hB:∀B,fo none (srs all)=some B→B.1≤ix∧ix≤B.1+B.2.length)
 (hkd:(kd=none∧remS ix m all=all)∨kd=some r0.length) (hout:kd=none→∃r∈M,FitsO f0 (fo none (srs all)) r) (hin:∀k,k≤r0.length→(kd=none∨k=r0.length)→∃r∈M,FitsO f0 (some (nxt (fo none (srs all)) (ix,r0.take k))) r):MO f0 M (remS ix m all) (some ((n,(ix,r0)),kd)):=by
 refine⟨fun hc=>?_,fun x k' e k hk hd=>?_⟩
 · rcases hc with hc|⟨x,hc⟩
   · cases hc
   · simp only[Option.some.injEq,Prod.mk.injEq]at hc
     rcases hkd with⟨_,h2⟩|h2
     · rw[h2];exact hout hc.2
     · rw[hc.2]at h2;cases h2
 · simp only[Option.some.injEq,Prod.mk.injEq]at e
   obtain⟨rfl,rfl⟩:=e
   dsimp only at hk ⊢
   rw[fo_snoc,(rem_fold m (r0.take k) hch hB).2];refine hin k hk ?_;rcases hkd with⟨h1,_⟩|h1
   · exact .inl h1
   · have:=hd _ h1
     exact .inr (by omega)
theorem recsW_one(x:List Nat):recsW [x]=recW x:=by
 show recW x++[]=recW x;rw[List.append_nil]
theorem Tells.bounds{f0:Nat}{st:Option SR}{first:Nat}{L:List (List Nat)}(h:Tells f0 st first L){ix:Nat}(h1:first≤ix)(h2:ix≤first+L.length):∀B,st=some B→B.1≤ix∧ix≤B.1+B.2.length:=by
 intro B hB;subst hB;obtain⟨t1,t2,t3⟩:=h;have:=congrArg List.length t3;rw[List.length_drop]at this;omega
theorem Tells.app{f0:Nat}{st:Option SR}{first:Nat}{L:List (List Nat)}(h:Tells f0 st first L)(x:List Nat):Tells f0 (some (nxt st (first+L.length,[x]))) first (L++[x]):=by
 cases st with
 |none=>
  obtain⟨rfl,rfl⟩:=h;exact⟨Nat.le_refl _,by show first≤first+0+_;omega,by show _=[x].drop (first-(first+0));rw[show first-(first+0)=0 by omega];rfl⟩
 |some B=>
  obtain⟨t1,t2,t3⟩:=h;have hl:=congrArg List.length t3;rw[List.length_drop]at hl;have e:nxt (some B) (first+L.length,[x])=(B.1,B.2++[x]):=by
   show(if first+L.length<B.1 then _ else (B.1,B.2.take (first+L.length-B.1)++[x]))=_;rw[if_neg (by omega),List.take_of_length_le (by omega)]
  rw[e];refine⟨t1,by show first≤B.1+(B.2++[x]).length;rw[List.length_append];omega,?_⟩;show L++[x]=(B.2++[x]).drop (first-B.1);rw[List.drop_append_of_le_length (by omega),←t3]
theorem Tells.void{f0:Nat}{st:Option SR}{first:Nat}{L:List (List Nat)}(h:Tells f0 st first L){r:SR}(hr:FitsO f0 st r):FitsO f0 (some (nxt st (first+L.length,[]))) r:=by
 cases st with
 |none=>
  obtain⟨rfl,rfl⟩:=h;have hr':FitsP first [] r.1 r.2:=hr;exact hr'
 |some B=>
  obtain⟨t1,t2,t3⟩:=h;have hl:=congrArg List.length t3;rw[List.length_drop]at hl;have e:nxt (some B) (first+L.length,[])=B:=by
   show(if first+L.length<B.1 then _ else (B.1,B.2.take (first+L.length-B.1)++[]))=_;rw[if_neg (by omega),List.take_of_length_le (by omega),List.append_nil]
  rw[e];exact hr
theorem Tells.cut{f0:Nat}{st:Option SR}{first ix:Nat}{L:List (List Nat)}(h:Tells f0 st first L)(h1:first≤ix)(h2:ix<first+L.length):Tells f0 (some (nxt st (ix,[]))) first (L.take (ix-first)):=by
 cases st with
 |none=>
  obtain⟨rfl,rfl⟩:=h;simp only[List.length_nil]at h2;omega
 |some B=>
  obtain⟨t1,t2,t3⟩:=h;have hl:=congrArg List.length t3;rw[List.length_drop]at hl;have e:nxt (some B) (ix,[])=(B.1,B.2.take (ix-B.1)):=by
   show(if ix<B.1 then _ else (B.1,B.2.take (ix-B.1)++[]))=_;rw[if_neg (by omega),List.append_nil]
  rw[e];refine⟨t1,by show first≤B.1+(B.2.take (ix-B.1)).length;rw[List.length_take];omega,?_⟩;show L.take (ix-first)=(B.2.take (ix-B.1)).drop (first-B.1);rw[List.drop_take,←t3,show ix-B.1-(first-B.1)=ix-first by omega]
theorem keepG_zero{g:LG}(h:g.fault=0):keepG (0,g)=(0,g):=by
 unfold keepG;rw[if_neg (by simp)];obtain⟨d,a,b,c,e,f,k,l,m,n⟩:=g
 dsimp only at h ⊢
 rw[h]
structure StepM(f0:Nat)(M M':List SR)(g:LG)(a:Int)(s:SR)(r:Int×LG):Prop where
 out:(r.2.d.dead=true∧∃segs cu,SI r.2.d segs cu∧MO f0 (M++[s]) segs cu∧∀x∈segs++cuL cu,x.1≤g.next)∨(r.2.d.dead=false∧r.1=a∧r.2.first=s.1∧r.2.L=s.2∧∃segs cu,LI f0 r.2 segs cu∧MO f0 M' segs cu)
 room:r.2.d.room=g.d.room
 len:r.2.d.secs.length≤g.d.secs.length+60
theorem num_new{all:List SegN}{n m ix:Nat}{r0:List (List Nat)}{kd:Option Nat}(h:∀x∈all,x.1<n):∀x∈remS ix m all++cuL (some ((n,(ix,r0)),kd)),x.1≤n:=by
 intro x hx;rcases List.mem_append.1 hx with h1|h1
 · have h2:x∈all:=by
    rcases List.mem_append.1 h1 with h3|h3
    · exact List.mem_of_mem_take h3
    · exact List.mem_of_mem_drop (List.mem_filter.1 h3).1
   exact Nat.le_of_lt (h x h2)
 · have h1':x∈[((n,(ix,r0)):SegN)]:=h1
   rw[List.mem_singleton.1 h1'];exact Nat.le_refl _
theorem keepG_room(r:Int×LG):(keepG r).2.d=r.2.d:=keepG_d r
theorem LI.app{f0:Nat}{M:List SR}{g:LG}{segs:List SegN}{cu:CuN}(h:LI f0 g segs cu)(hM:MO f0 M segs cu){x:List Nat}(hx:x.length≤512)(hb:∀y∈x,y<256)(hs:g.sector≤40)(hroom:(g.d.secs.length:Int)+120<g.d.room)(hn:g.next<1152921504606846976)(he:g.first+g.L.length≤2305843009213693952):
 StepM f0 M (M++[(g.first,g.L++[x])]) g 0 (g.first,g.L++[x]) (appG g x):=by
 have hsub:∀r∈M,r∈M++[(g.first,g.L++[x])]:=fun r hr=>List.mem_append_left _ hr
 have hlast:(g.first,g.L++[x])∈M++[(g.first,g.L++[x])]:=List.mem_append_right _ (List.mem_singleton.2 rfl);have happ:appG g x=if ¬(extG g (recW x)).1=0 then ((extG g (recW x)).1,(keepG (extG g (recW x))).2)else (0,{ (keepG (extG g (recW x))).2 with L:=(keepG (extG g (recW x))).2.L++[x] }):=by
  unfold appG;rw[if_neg (by rw[h.fault];decide),if_neg (by omega),if_neg (by omega)];rfl
 have hrl:(recW x).length≤522:=by
  unfold recW;rw[List.length_append];have:=uw_len10 (n:=x.length) (by omega);omega
 by_cases hw:wantsN g.sector g.tl.length=true
 · -- a new segment
   have hext:extG g (recW x)=beginG g (g.first+g.L.length) (recsW [x]):=by
    unfold extG;rw[if_pos hw,recsW_one]
   have hPl:(segP (g.first+g.L.length,[x])).length≤600:=by
    rw[segP_len]
    dsimp only
    rw[recsW_one];have:=uw_len10 (n:=g.first+g.L.length) (by omega);omega
   obtain⟨hbeg,hbr,hbl⟩:=h.begin (ix:=g.first+g.L.length) (r0:=[x]) (fun y hy=>by rw[List.mem_singleton.1 hy];exact⟨hx,hb⟩) hPl (Nat.le_add_right _ _) (Nat.le_refl _) he hroom hn;rw[hext]at happ;have hfirst:=beginG_first g (g.first+g.L.length) (recsW [x]);have hLL:=beginG_L g (g.first+g.L.length) (recsW [x]);obtain⟨bg,hbg⟩:∃bg,beginG g (g.first+g.L.length) (recsW [x])=bg:=⟨_,rfl⟩;rw[hbg]at happ hbeg hbr hbl hfirst hLL;have hB:=h.log.bounds (Nat.le_add_right g.first g.L.length) (Nat.le_refl _);obtain⟨r1,hr1,hr2⟩:=hM.whole h.si;have hk0:∃r∈M++[(g.first,g.L++[x])],FitsO f0 (some (nxt (fo none (srs (segs++cuL cu))) (g.first+g.L.length,([x]:List (List Nat)).take 0))) r:=⟨r1,hsub r1 hr1,h.log.void hr2⟩;have hk1:∃r∈M++[(g.first,g.L++[x])],FitsO f0 (some (nxt (fo none (srs (segs++cuL cu))) (g.first+g.L.length,([x]:List (List Nat)).take 1))) r:=⟨_,hlast,(h.log.app x).fits⟩;have hin:∀(kd:Option Nat) k,k≤([x]:List (List Nat)).length→(kd=none∨k=([x]:List (List Nat)).length)→∃r∈M++[(g.first,g.L++[x])],FitsO f0 (some (nxt (fo none (srs (segs++cuL cu))) (g.first+g.L.length,([x]:List (List Nat)).take k))) r:=by
    intro kd k hk _;have hk':k≤1:=hk;(have hk2:k=0∨k=1:=by omega);rcases hk2 with rfl|rfl
    · exact hk0
    · exact hk1
   (have hnew:=fun(m:Nat) (kd:Option Nat) (hkd:(kd=none∧remS (g.first+g.L.length) m (segs++cuL cu)=segs++cuL cu)∨kd=some ([x]:List (List Nat)).length)=>MO.new (f0:=f0) (M:=M++[(g.first,g.L++[x])]) (n:=g.next) (m:=m) (r0:=[x]) h.si.chain hB hkd (fun _=>⟨r1,hsub r1 hr1,hr2⟩) (hin kd));have hkd:(keepG bg).2.d=bg.2.d:=keepG_d bg;rcases hbeg with⟨b1,b2,b3⟩|⟨b1,kd,b2,b3⟩
   · rw[if_pos (by rw[b1];decide)]at happ
     rw[happ];refine⟨.inl ⟨by show(keepG bg).2.d.dead=true;rw[hkd];exact b2,?_⟩,by show(keepG bg).2.d.room=_;rw[hkd];exact hbr,by show(keepG bg).2.d.secs.length≤_;rw[hkd];exact hbl⟩;show ∃segs' cu',SI (keepG bg).2.d segs' cu'∧_;rw[hkd];rcases b3 with b3|b3|⟨m,b3⟩
     · exact⟨_,_,b3,hM.more hsub,fun y hy=>Nat.le_of_lt (h.next y hy)⟩
     · have:=hnew (segs++cuL cu).length none (.inl ⟨rfl,rem_all _ _⟩)
       rw[←rem_all (g.first+g.L.length) (segs++cuL cu)]at b3;exact⟨_,_,b3,this,num_new h.next⟩
     · exact⟨_,_,b3,hnew m _ (.inr rfl),num_new h.next⟩
   · have b4:=b3 (g.L++[x]) (h.log.app x)
     have hfl:bg.2.fault=0:=b4.fault;have hkz:keepG bg=bg:=by
      have:bg=(0,bg.2):=Prod.ext b1 rfl;rw[this];exact keepG_zero hfl
     rw[if_neg (by rw[b1];decide),hkz,hLL]at happ;rw[happ];exact⟨.inr ⟨b4.live,rfl,hfirst,rfl,_,_,b4,hnew 0 kd b2⟩,hbr,hbl⟩
 · -- the segment that is written
   have hcu:∃x kd,cu=some (x,kd):=by
    cases hc:cu with
    |some c=>exact⟨c.1,c.2,rfl⟩
    |none=>
     obtain⟨_,c2,c3⟩:=h.cur0 hc;exfalso;refine hw ?_;rw[c2,c3];rfl
   obtain⟨⟨n,ix,recs⟩,kd,rfl⟩:=hcu;have hs16:g.sector<16:=by
    by_cases h16:g.sector<16
    · exact h16
    · exact absurd (decide_eq_true (.inr (by omega))) hw
   have htl63:g.tl.length<63:=by
    obtain⟨_,_,_,c4,_⟩:=h.cur1 _ _ rfl;have:=congrArg List.length c4;rw[List.length_drop]at this;omega
   have hfit:fitsE g.d g.tl.length (recW x).length=0:=by
    unfold fitsE;rw[if_neg (by rw[h.live];decide),if_neg];unfold moreN;omega
   have hext:extG g (recW x)=((layR g.d g.area g.sector (g.tl++recW x)).e,{ g with d:=(layR g.d g.area g.sector (g.tl++recW x)).d,sector:=(layR g.d g.area g.sector (g.tl++recW x)).sector,tl:=(layR g.d g.area g.sector (g.tl++recW x)).tail.getD g.tl }):=by
    unfold extG;rw[if_neg hw,if_neg (by rw[hfit];decide)]
   obtain⟨a1,a2,a3,a4⟩:=h.append hx hb hs (by omega) (by omega);rw[hext]at happ;obtain⟨r,hr⟩:∃r,layR g.d g.area g.sector (g.tl++recW x)=r:=⟨_,rfl⟩;rw[hr]at happ a1 a2 a3 a4;have hmo:MO f0 (M++[(g.first,g.L++[x])]) segs (some ((n,(ix,recs++[x])),kd)):=by
    refine⟨fun hc=>?_,fun y k' e k hk hd=>?_⟩
    · rcases hc with hc|⟨y,hc⟩
      · cases hc
      · simp only[Option.some.injEq,Prod.mk.injEq]at hc
        obtain⟨q,q1,q2⟩:=hM.out (.inr ⟨(n,(ix,recs)),by rw[hc.2]⟩);exact⟨q,hsub q q1,q2⟩
    · simp only[Option.some.injEq,Prod.mk.injEq]at e
      obtain⟨rfl,rfl⟩:=e
      dsimp only at hk ⊢
      rw[List.length_append,List.length_singleton]at hk;by_cases hkl:k≤recs.length
      · rw[List.take_append_of_le_length hkl]
        obtain⟨q,q1,q2⟩:=hM.inn (n,(ix,recs)) kd rfl k hkl hd;exact⟨q,hsub q q1,q2⟩
      · rw[List.take_of_length_le (by rw[List.length_append,List.length_singleton];omega)]
        refine⟨_,hlast,?_⟩;have hlog:=h.log;have e1:srs (segs++cuL (some ((n,(ix,recs)),kd)))=srs segs++[(ix,recs)]:=srs_append _ _;rw[e1,fo_snoc]at hlog;rw[fo_snoc,nxt_more];obtain⟨t1,t2,t3⟩:=hlog;have ht:Tells f0 (some ((nxt (fo none (srs segs)) (ix,recs)).1,(nxt (fo none (srs segs)) (ix,recs)).2++[x])) g.first (g.L++[x]):=by
         refine⟨t1,by show g.first≤_+(_++[x]).length;rw[List.length_append];omega,?_⟩;show g.L++[x]=((nxt (fo none (srs segs)) (ix,recs)).2++[x]).drop (g.first-(nxt (fo none (srs segs)) (ix,recs)).1);rw[List.drop_append_of_le_length (by omega),←t3]
        exact ht.fits
   rcases a2 with⟨b1,b2⟩|⟨b1,b2⟩
   · rw[if_pos (by show ¬r.e=0;rw[b1];decide)]at happ
     rw[happ];have hkd:=keepG_d (r.e,({ g with d:=r.d,sector:=r.sector,tl:=r.tail.getD g.tl }:LG))
     dsimp only at hkd
     refine⟨.inl ⟨by dsimp only;rw[hkd];exact b2,?_⟩,by dsimp only;rw[hkd];exact a3,by dsimp only;rw[hkd];exact a4⟩
     dsimp only
     rw[hkd];exact⟨_,_,a1,hmo,fun y hy=>by
      rcases List.mem_append.1 hy with h1|h1
      · exact Nat.le_of_lt (h.next y (List.mem_append_left _ h1))
      · have h1':y∈[((n,(ix,recs++[x])):SegN)]:=h1
        rw[List.mem_singleton.1 h1'];exact Nat.le_of_lt (h.next (n,(ix,recs)) (List.mem_append_right _ (List.mem_singleton.2 rfl)))⟩
   · have hkz:keepG (r.e,({ g with d:=r.d,sector:=r.sector,tl:=r.tail.getD g.tl }:LG))=(0,{ g with d:=r.d,sector:=r.sector,tl:=r.tail.getD g.tl }):=by
      rw[b1];exact keepG_zero h.fault
     rw[if_neg (by show ¬¬r.e=0;rw[b1];decide),hkz]at happ;rw[happ];exact⟨.inr ⟨b2.live,rfl,rfl,rfl,_,_,b2,hmo⟩,a3,a4⟩
end Go.Proofs.YthecngkdmnadoaaGreat

namespace Go.Proofs.YthecngkdmnadoaaGreat
open Go.RowKit
set_option maxRecDepth 100000
theorem LI.trunc{f0:Nat}{M:List SR}{g:LG}{segs:List SegN}{cu:CuN}(h:LI f0 g segs cu)(hM:MO f0 M segs cu){i:Nat}(h1:g.first≤i)(h2:i<g.first+g.L.length)(hroom:(g.d.secs.length:Int)+120<g.d.room)(hn:g.next<1152921504606846976)(he:g.first+g.L.length≤2305843009213693952):
 StepM f0 M (M++[(g.first,g.L.take (i-g.first))]) g 0 (g.first,g.L.take (i-g.first)) (truncG g i):=by
 have hsub:∀r∈M,r∈M++[(g.first,g.L.take (i-g.first))]:=fun r hr=>List.mem_append_left _ hr
 have hlast:(g.first,g.L.take (i-g.first))∈M++[(g.first,g.L.take (i-g.first))]:=List.mem_append_right _ (List.mem_singleton.2 rfl);have htr:truncG g i=if ¬(beginG g i (recsW [])).1=0 then ((beginG g i (recsW [])).1,(keepG (beginG g i (recsW []))).2)else (0,{ (keepG (beginG g i (recsW []))).2 with L:=(keepG (beginG g i (recsW []))).2.L.take (i-g.first) }):=by
  unfold truncG;rw[if_neg (by rw[h.fault];decide),if_neg (by omega),if_neg (by omega)];rfl
 have hPl:(segP (i,[])).length≤600:=by
  rw[segP_len];have:=uw_len10 (n:=i) (by omega);show(uw i).length+0≤600;omega
 obtain⟨hbeg,hbr,hbl⟩:=h.begin (ix:=i) (r0:=[]) (fun y hy=>by cases hy) hPl h1 (by omega) (by omega) hroom hn;have hfirst:=beginG_first g i (recsW []);have hLL:=beginG_L g i (recsW []);obtain⟨bg,hbg⟩:∃bg,beginG g i (recsW [])=bg:=⟨_,rfl⟩;rw[hbg]at htr hbeg hbr hbl hfirst hLL;have hB:=h.log.bounds h1 (Nat.le_of_lt h2);obtain⟨r1,hr1,hr2⟩:=hM.whole h.si;have hcut:=h.log.cut h1 h2;have hin:∀(kd:Option Nat) k,k≤([]:List (List Nat)).length→(kd=none∨k=([]:List (List Nat)).length)→∃r∈M++[(g.first,g.L.take (i-g.first))],FitsO f0 (some (nxt (fo none (srs (segs++cuL cu))) (i,([]:List (List Nat)).take k))) r:=by
  intro kd k _ _;rw[List.take_nil];exact⟨_,hlast,hcut.fits⟩
 have hnew:=fun(m:Nat) (kd:Option Nat) (hkd:(kd=none∧remS i m (segs++cuL cu)=segs++cuL cu)∨kd=some ([]:List (List Nat)).length)=>MO.new (f0:=f0) (M:=M++[(g.first,g.L.take (i-g.first))]) (n:=g.next) (m:=m) (r0:=[]) h.si.chain hB hkd (fun _=>⟨r1,hsub r1 hr1,hr2⟩) (hin kd)
 have hkd:(keepG bg).2.d=bg.2.d:=keepG_d bg;rcases hbeg with⟨b1,b2,b3⟩|⟨b1,kd,b2,b3⟩
 · rw[if_pos (by rw[b1];decide)]at htr
   rw[htr];refine⟨.inl ⟨by show(keepG bg).2.d.dead=true;rw[hkd];exact b2,?_⟩,by show(keepG bg).2.d.room=_;rw[hkd];exact hbr,by show(keepG bg).2.d.secs.length≤_;rw[hkd];exact hbl⟩;show ∃segs' cu',SI (keepG bg).2.d segs' cu'∧_;rw[hkd];rcases b3 with b3|b3|⟨m,b3⟩
   · exact⟨_,_,b3,hM.more hsub,fun y hy=>Nat.le_of_lt (h.next y hy)⟩
   · have:=hnew (segs++cuL cu).length none (.inl ⟨rfl,rem_all _ _⟩)
     rw[←rem_all i (segs++cuL cu)]at b3;exact⟨_,_,b3,this,num_new h.next⟩
   · exact⟨_,_,b3,hnew m _ (.inr rfl),num_new h.next⟩
 · have b4:=b3 (g.L.take (i-g.first)) hcut
   have hfl:bg.2.fault=0:=b4.fault;have hkz:keepG bg=bg:=by
    have:bg=(0,bg.2):=Prod.ext b1 rfl;rw[this];exact keepG_zero hfl
   rw[if_neg (by rw[b1];decide),hkz,hLL]at htr;rw[htr];exact⟨.inr ⟨b4.live,rfl,hfirst,rfl,_,_,b4,hnew 0 kd b2⟩,hbr,hbl⟩
theorem LI.sy{f0:Nat}{g:LG}{segs:List SegN}{cu:CuN}(h:LI f0 g segs cu)(h0:stepE g.d=0):∃cu',cuL cu'=cuL cu∧(∀x kd,cu'=some (x,kd)→kd=some x.2.2.length)∧(cu=none↔cu'=none)∧LI f0 { g with d:=syD g.d g.area } segs cu':=by
 rcases sy_alive h.live (g.area:Int)with⟨t1,t2,t3,t4⟩|⟨t1,_⟩
 · cases hcu:cu with
   |some c=>
    obtain⟨x,kd⟩:=c;subst hcu;obtain⟨c1,c2,c3,c4,c5⟩:=h.cur1 x kd rfl;(have e:(g.area:Int)=arN x.1:=by rw[c1];rfl);refine⟨some (x,some x.2.2.length),rfl,fun y k e=>?_,⟨(fun e=>by cases e),(fun e=>by cases e)⟩,?_⟩
    · simp only[Option.some.injEq,Prod.mk.injEq]at e
      rw[←e.1,e.2]
    · rw[e]at t2
      have h3:=(h.si.sync (d':=syD g.d g.area) c2 (by rw[e];exact t2)).1;refine⟨h3,t3,h.fault,h.adr,h.pls,(fun e=>by cases e),fun y k e2=>?_,h.next,h.log⟩;simp only[Option.some.injEq,Prod.mk.injEq]at e2;obtain⟨rfl,rfl⟩:=e2;refine⟨c1,fun i=>?_,c3,c4,c5⟩;show OkV _ _ _ i (curOf (syD g.d g.area).secs (arN x.1) (i:Int));rw[e,t2,vcur_sy];exact c2 i
   |none=>
    subst hcu;have hs:=h.synced;have e0:segs++cuL none=segs:=List.append_nil _;rw[e0]at hs;rcases hs with⟨_,q2,q3,_⟩|⟨q1,_⟩
    · refine⟨none,rfl,(fun y k e=>by cases e),Iff.rfl,?_⟩
      exact⟨q2,q3,h.fault,h.adr,h.pls,h.cur0,(fun y k e=>by cases e),h.next,h.log⟩
    · rw[h0]at q1;cases q1
 · rw[h0]at t1;cases t1
theorem MO.all{f0:Nat}{segs:List SegN}{cu:CuN}{r:SR}(hk:∀x kd,cu=some (x,kd)→kd=some x.2.2.length)(hf:FitsO f0 (fo none (srs (segs++cuL cu))) r):MO f0 [r] segs cu:=by
 refine⟨fun hc=>⟨r,List.mem_singleton.2 rfl,?_⟩,fun x kd e k h1 h2=>⟨r,List.mem_singleton.2 rfl,?_⟩⟩
 · rcases hc with hc|⟨x,hc⟩
   · rw[hc]at hf
     have e:segs++cuL none=segs:=List.append_nil _
     rwa [e]at hf
   · have:=hk x none hc
     cases this
 · have h3:=hk x kd e
   have h4:=h2 _ h3;rw[List.take_of_length_le h4];rw[e]at hf;have e2:srs (segs++cuL (some (x,kd)))=srs segs++[(x.2.1,x.2.2)]:=srs_append _ _
   rwa [e2]at hf
theorem LI.sync{f0:Nat}{M:List SR}{g:LG}{segs:List SegN}{cu:CuN}(h:LI f0 g segs cu)(hM:MO f0 M segs cu):StepM f0 M [(g.first,g.L)] g 0 (g.first,g.L) (syncG g):=by
 have hsub:∀r∈M,r∈M++[(g.first,g.L)]:=fun r hr=>List.mem_append_left _ hr
 have hsy:syncG g=keepG (stepE g.d,{ g with d:=syD g.d g.area }):=by
  unfold syncG;rw[if_neg (by rw[h.fault];decide),if_neg (by rw[h.adr];decide)];rfl
 rw[hsy];rcases sy_alive h.live (g.area:Int)with⟨t1,t2,t3,t4⟩|⟨t1,t2,t3,t4⟩
 · rw[t1]
   have hkz:keepG (0,({ g with d:=syD g.d g.area }:LG))=(0,{ g with d:=syD g.d g.area }):=keepG_zero h.fault;rw[hkz];obtain⟨cu',c1,c2,_,c4⟩:=h.sy t1;refine⟨.inr ⟨t3,rfl,rfl,rfl,segs,cu',c4,MO.all c2 ?_⟩,t4,by show(syD g.d g.area).secs.length≤_;rw[t2,Go.Proofs.YthecngkdmnadoaaGreat.sy,List.length_map];omega⟩;rw[c1];exact h.log.fits
 · rw[t1]
   have hkd:=keepG_d (30,({ g with d:=syD g.d g.area }:LG))
   dsimp only at hkd
   refine⟨.inl ⟨by rw[hkd];exact t3,?_⟩,by rw[hkd];exact t4,by rw[hkd,t2];omega⟩;rw[hkd];exact⟨_,_,h.si.secs t2,hM.more hsub,fun y hy=>Nat.le_of_lt (h.next y hy)⟩
theorem front_main(cu:CuN):∀(a b:List SegN) (d:DS),SI d (a++b) cu→(a=[]∨∃y r,b++cuL cu=y::r)→d.dead=false →
 (((frsR d (a.map plS)).1=0∧(frsR d (a.map plS)).2.dead=false∧SI (frsR d (a.map plS)).2 b cu)∨((frsR d (a.map plS)).1=30∧(frsR d (a.map plS)).2.dead=true∧∃p q,a=p++q∧SI (frsR d (a.map plS)).2 (q++b) cu)) ∧
 (frsR d (a.map plS)).2.room=d.room∧(frsR d (a.map plS)).2.secs.length≤d.secs.length∧∀a',(∀x∈a,a'≠arN x.1)→∀i,curOf (frsR d (a.map plS)).2.secs a' i=curOf d.secs a' i
 |[],b,d,hs,_,hd=>by
  have e:([]:List SegN).map plS=[]:=rfl;rw[e,frsR];exact⟨.inl ⟨rfl,hd,hs⟩,rfl,Nat.le_refl _,fun _ _ _=>rfl⟩
 |x::r,b,d,hs,hne,hd=>by
  have hy:∃y t,b++cuL cu=y::t:=by
   rcases hne with h|h
   · cases h
   · exact h
  have har:((4*(plS x).1+1:Nat):Int)=arN x.1:=rfl;rw[List.map_cons];rcases fr_alive hd (arN x.1)with⟨t1,t2,t3,t4⟩|⟨t1,t2,t3,t4⟩
  · have hstep:frsR d (plS x::r.map plS)=frsR (frD d (arN x.1)) (r.map plS):=by rw[frsR,if_pos (show frE d=0 from t1),har]
    rw[hstep];have hch:ch none (srs (r++b++cuL cu)):=by
     have h1:=hs.chain;obtain⟨y,t,e⟩:=hy;have e1:srs (x::r++b++cuL cu)=[x.2]++srs (r++b++cuL cu):=rfl;rw[e1]at h1;have e2:∃s q,srs (r++b++cuL cu)=s::q:=by
      cases r with
      |nil=>
       refine⟨y.2,srs t,?_⟩;rw[List.nil_append,e];rfl
      |cons z r'=>exact⟨z.2,srs (r'++b++cuL cu),rfl⟩
     obtain⟨s,q,e3⟩:=e2;rw[e3]at h1 ⊢;exact(front_suf [x.2] s q h1).1
    have hs':SI (frD d (arN x.1)) (r++b) cu:=SI.free (a:=[]) (x:=x) hs t2 hch;obtain⟨q1,q2,q3,q4⟩:=front_main cu r b (frD d (arN x.1)) hs' (.inr hy) t3;refine⟨q1.imp id (fun⟨v1,v2,p,q,v3,v4⟩=>⟨v1,v2,x::p,q,by rw[v3];rfl,v4⟩),q2.trans t4,Nat.le_trans q3 (by rw[t2];exact List.length_filter_le ..),fun a' ha i=>?_⟩;rw[q4 a' (fun y hy=>ha y (List.mem_cons_of_mem _ hy)) i,t2,vcur_fr,if_neg (ha x (List.mem_cons_self ..))]
  · have hstep:frsR d (plS x::r.map plS)=(30,frD d (arN x.1)):=by
     have t1':frE d=30:=t1;rw[frsR,if_neg (by rw[t1'];decide),har,t1']
    rw[hstep];refine⟨.inr ⟨rfl,t3,[],x::r,rfl,hs.secs t2⟩,t4,by show(frD d (arN x.1)).secs.length≤_;rw[t2];exact Nat.le_refl _,fun a' _ i=>?_⟩;show curOf (frD d (arN x.1)).secs a' i=_;rw[t2]
theorem downTo_at(l:List Pl)(i:Nat):∀n t,downTo l i n=t+1→t+1≤n∧(l.getD (t+1) (0,0)).2≤i
 |0,t,h=>by rw[downTo]at h;cases h
 |n+1,t,h=>by
  rw[downTo]at h
  split at h
  · obtain⟨h1,h2⟩:=downTo_at l i n t h
    exact⟨by omega,h2⟩
  · rename_i hc
    (have e:n=t:=by omega);subst e;exact⟨Nat.le_refl _,by omega⟩
theorem Suf.tells{f0:Nat}{B C:SR}{first i:Nat}{L:List (List Nat)}(h:Suf B C)(ht:Tells f0 (some B) first L)(h1:first≤i)(h2:i≤first+L.length)(hC:C.1≤i):Tells f0 (some C) i (L.drop (i-first)):=by
 obtain⟨t1,t2,t3⟩:=ht;have hl:=congrArg List.length t3;rw[List.length_drop]at hl;have h3:=h.ends;have h4:=h.le;refine⟨hC,by omega,?_⟩;rw[←h.drop,t3,List.drop_drop,List.drop_drop];congr 1;omega
end Go.Proofs.YthecngkdmnadoaaGreat
