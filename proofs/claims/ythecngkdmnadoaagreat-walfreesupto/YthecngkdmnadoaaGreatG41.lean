/- Texts that were written apart, joined. -/
import Derived.Test.YthecngkdmnadoaaGreatG40
import Derived.Test.YthecngkdmnadoaaGreatG37
namespace Go.Proofs.YthecngkdmnadoaaGreat
open Go.RowKit
set_option maxRecDepth 100000
theorem ixG_lt(g:LG)(z:Int):ixG g z<18446744073709551616:=(ixG_is g z).2
theorem does_small{k:Nat}{g:LG}(h:GSm k g)(kd z:Int)(x:List Nat)(hk:k≤1073741824):GSm (k+1) (doesG g kd z x).2:=by
 unfold doesG
 split
 · exact appG_small h x hk
 · split
   · exact syncG_small h hk
   · split
     · exact truncG_small h _ (ixG_lt g z)
     · split
       · exact compG_small h _
       · exact h.more (Nat.le_succ k)
theorem does_di(g:LG)(kd z:Int)(x:List Nat)(h:g.d.dead=false):DI (doesG g kd z x).2:=by
 unfold doesG
 split
 · exact di_app g x h
 · split
   · exact di_sync g h
   · split
     · exact di_trunc g _ h
     · split
       · exact di_comp g _ h
       · exact fun hd=>by rw[h]at hd;cases hd
def GRec(g:LG):Prop:=∀xs∈g.L,xs.length≤512
theorem GRec.sub{g g':LG}(h:GRec g)(hs:∀x∈g'.L,x∈g.L):GRec g':=fun x hx=>h x (hs x hx)
theorem does_rec{g:LG}(h:GRec g)(kd z:Int)(x:List Nat):GRec (doesG g kd z x).2:=by
 unfold doesG
 split
 · unfold appG
   split
   · exact h
   · split
     · exact h
     · split
       · exact h
       · split
         · exact h.sub (fun y hy=>by rwa [keepG_L,extG_L]at hy)
         · intro y hy
           rcases List.mem_append.1 hy with h1|h1
           · rw[keepG_L,extG_L]at h1
             exact h y h1
           · rw[List.mem_singleton.1 h1]
             omega
 · split
   · unfold syncG
     split
     · exact h
     · split
       · split
         · exact h.sub (fun y hy=>by rwa [keepG_L,beginG_L]at hy)
         · refine h.sub (fun y hy=>?_)
           rw[sydG_g]at hy;have hy2:y∈(keepG (beginG g g.first [])).2.L:=hy
           rwa [keepG_L,beginG_L]at hy2
       · refine h.sub (fun y hy=>?_)
         rw[sydG_g]at hy;exact hy
   · split
     · unfold truncG
       split
       · exact h
       · split
         · exact h
         · split
           · exact h
           · split
             · exact h.sub (fun y hy=>by rwa [keepG_L,beginG_L]at hy)
             · refine h.sub (fun y hy=>?_)
               have hy2:=List.mem_of_mem_take (show y∈((keepG (beginG g (ixG g z) [])).2.L.take (ixG g z-g.first))from hy)
               rwa [keepG_L,beginG_L]at hy2
     · split
       · unfold compG
         split
         · exact h
         · split
           · exact h
           · split
             · exact h
             · split
               · exact h
               · exact h.sub (fun y hy=>List.mem_of_mem_drop (show y∈g.L.drop (ixG g z-g.first)from hy))
       · exact h
theorem does_halt{g:LG}(h:g.fault=30){kd:Int}(h0:0≤kd)(h4:kd<4)(z:Int)(x:List Nat):doesG g kd z x=(30,g):=by
 have hf:¬g.fault=0:=by rw[h];decide
 unfold doesG
 split
 · rw[appG,if_pos hf,h]
 · split
   · rw[syncG,if_pos hf,h]
   · split
     · rw[truncG,if_pos hf,h]
     · split
       · rw[compG,if_pos hf,h]
       · omega
def y0:LG:=(openG (newD 1073741824) 0 1).2
set_option maxHeartbeats 2000000
theorem y0_is:openG (newD 1073741824) 0 1=(0,y0):=Prod.ext (by decide +kernel) rfl
theorem y0_small:GSm 4 y0:=⟨by decide +kernel,by decide +kernel,by decide +kernel,by decide +kernel,by decide +kernel,by decide +kernel⟩
theorem y0_rec:y0.L=[]:=by decide +kernel
theorem y0_live:y0.d.dead=false∧y0.fault=0:=by decide +kernel
end Go.Proofs.YthecngkdmnadoaaGreat

namespace Go.Proofs.YthecngkdmnadoaaGreat
open Go.RowKit
set_option maxRecDepth 100000
def doR(r:SR)(k z:Int)(x:List Nat):Int×SR:=
 if k=0 then (if 512<x.length then (50,r)else (0,(r.1,r.2++[x])))
 else if k=2 then (if z<0∨(r.2.length:Int)<z then (51,r)else (0,(r.1,r.2.take z.toNat)))
 else if k=3 then (if (IntKind.u64.wrap ((r.1:Int)+IntKind.u64.wrap z)).toNat≤r.1 then (0,r)else if r.1+r.2.length<(IntKind.u64.wrap ((r.1:Int)+IntKind.u64.wrap z)).toNat then (51,r)else (0,((IntKind.u64.wrap ((r.1:Int)+IntKind.u64.wrap z)).toNat,r.2.drop z.toNat)))
 else (0,r)
theorem ix_near(f:Nat)(z:Int)(hf:f≤2305843009213693952)(h1 : -1000000<z)(h2:z<1000000):(0≤z∧(IntKind.u64.wrap ((f:Int)+IntKind.u64.wrap z)).toNat=f+z.toNat)∨(z<0∧((IntKind.u64.wrap ((f:Int)+IntKind.u64.wrap z)).toNat<f∨9223372036854775808≤(IntKind.u64.wrap ((f:Int)+IntKind.u64.wrap z)).toNat)):=by
 simp only[IntKind.wrap,IntKind.bits,IntKind.signed];by_cases h0:0≤z
 · left
   refine⟨h0,?_⟩;simp;omega
 · right
   refine⟨by omega,?_⟩;simp;omega
theorem StepM.stay{f0:Nat}{M:List SR}{g:LG}{segs:List SegN}{cu:CuN}(h:LI f0 g segs cu)(hM:MO f0 M segs cu)(a:Int):StepM f0 M (M++[(g.first,g.L)]) g a (g.first,g.L) (a,g):=
 ⟨.inr ⟨h.live,rfl,rfl,rfl,segs,cu,h,hM.more (fun _ hr=>List.mem_append_left _ hr)⟩,rfl,Nat.le_add_right _ _⟩
theorem LI.does{f0:Nat}{M:List SR}{g:LG}{segs:List SegN}{cu:CuN}(h:LI f0 g segs cu)(hM:MO f0 M segs cu){k z:Int}{x:List Nat}(h1 : -1000000<z)(h2:z<1000000)(hb:∀y∈x,y<256)(hs:g.sector≤40)(hroom:(g.d.secs.length:Int)+120<g.d.room)(hn:g.next<1152921504606846976)(he:g.first+g.L.length≤2305843009213693952):
 StepM f0 M (if k=1 then [(doR (g.first,g.L) k z x).2]else M++[(doR (g.first,g.L) k z x).2]) g (doR (g.first,g.L) k z x).1 (doR (g.first,g.L) k z x).2 (doesG g k z x):=by
 have hf:¬¬g.fault=0:=by rw[h.fault];decide
 have hix:=ix_near g.first z (by omega) h1 h2;by_cases k0:k=0
 · subst k0
   have ed:doesG g 0 z x=appG g x:=if_pos rfl;rw[ed,if_neg (by decide)];by_cases hx:512<x.length
   · have e:doR (g.first,g.L) 0 z x=(50,(g.first,g.L)):=by unfold doR;rw[if_pos rfl,if_pos hx]
     (have e2:appG g x=(50,g):=by unfold appG;rw[if_neg hf,if_pos hx]);rw[e,e2];exact StepM.stay h hM 50
   · have e:doR (g.first,g.L) 0 z x=(0,(g.first,g.L++[x])):=by unfold doR;rw[if_pos rfl,if_neg hx]
     rw[e];exact h.app hM (by omega) hb hs hroom hn he
 by_cases k1:k=1
 · subst k1
   (have ed:doesG g 1 z x=syncG g:=by unfold doesG;rw[if_neg (by decide),if_pos rfl]);(have e:doR (g.first,g.L) 1 z x=(0,(g.first,g.L)):=by unfold doR;rw[if_neg (by decide),if_neg (by decide),if_neg (by decide)]);rw[ed,e,if_pos rfl];exact h.sync hM
 rw[if_neg k1];by_cases k2:k=2
 · subst k2
   (have ed:doesG g 2 z x=truncG g (ixG g z):=by unfold doesG;rw[if_neg (by decide),if_neg (by decide),if_pos rfl]);(have eR:doR (g.first,g.L) 2 z x=if z<0∨(g.L.length:Int)<z then (51,(g.first,g.L))else (0,(g.first,g.L.take z.toNat)):=by unfold doR;rw[if_neg (by decide),if_pos rfl]);obtain⟨i,hi⟩:∃i,ixG g z=i:=⟨_,rfl⟩;have hi2:(IntKind.u64.wrap ((g.first:Int)+IntKind.u64.wrap z)).toNat=i:=hi;rw[hi2]at hix;rw[ed,eR,hi];by_cases hz:z<0∨(g.L.length:Int)<z
   · rw[if_pos hz]
     have e2:truncG g i=(51,g):=by
      unfold truncG;rw[if_neg hf,if_pos];omega
     rw[e2];exact StepM.stay h hM 51
   · rw[if_neg hz]
     (have hiz:i=g.first+z.toNat:=by omega);by_cases hend:z.toNat=g.L.length
     · have e2:truncG g i=(0,g):=by
        unfold truncG;rw[if_neg hf,if_neg (by omega),if_pos (by omega)]
       rw[e2,List.take_of_length_le (by omega)];exact StepM.stay h hM 0
     · have:=h.trunc hM (i:=i) (by omega) (by omega) hroom hn he
       rwa [show i-g.first=z.toNat by omega]at this
 by_cases k3:k=3
 · subst k3
   (have ed:doesG g 3 z x=compG g (ixG g z):=by unfold doesG;rw[if_neg (by decide),if_neg (by decide),if_neg (by decide),if_pos rfl]);obtain⟨i,hi⟩:∃i,ixG g z=i:=⟨_,rfl⟩;have hi2:(IntKind.u64.wrap ((g.first:Int)+IntKind.u64.wrap z)).toNat=i:=hi;have eR:doR (g.first,g.L) 3 z x=if i≤g.first then (0,(g.first,g.L))else if g.first+g.L.length<i then (51,(g.first,g.L))else (0,(i,g.L.drop z.toNat)):=by
    unfold doR;rw[if_neg (by decide),if_neg (by decide),if_pos rfl]
    dsimp only
    rw[hi2]
   rw[hi2]at hix;rw[ed,eR,hi];by_cases hc:i≤g.first
   · rw[if_pos hc]
     have e2:compG g i=(0,g):=by
      unfold compG;rw[if_neg hf,if_neg (by omega),if_pos hc]
     rw[e2];exact StepM.stay h hM 0
   · rw[if_neg hc]
     by_cases hc2:g.first+g.L.length<i
     · rw[if_pos hc2]
       have e2:compG g i=(51,g):=by
        unfold compG;rw[if_neg hf,if_pos hc2]
       rw[e2];exact StepM.stay h hM 51
     · rw[if_neg hc2]
       have:=h.comp hM (i:=i) (by omega) (by omega)
       rwa [show i-g.first=z.toNat by omega]at this
 have ed:doesG g k z x=(0,g):=by unfold doesG;rw[if_neg k0,if_neg k1,if_neg k2,if_neg k3]
 have e:doR (g.first,g.L) k z x=(0,(g.first,g.L)):=by unfold doR;rw[if_neg k0,if_neg k2,if_neg k3]
 rw[ed,e];exact StepM.stay h hM 0
end Go.Proofs.YthecngkdmnadoaaGreat

namespace Go.Proofs.YthecngkdmnadoaaGreat
open Go.RowKit
set_option maxRecDepth 100000
theorem step_free{d:DS}(hd:d.dead=false)(ha:d.armed=false):stepE d=0∧(stepD d).dead=false∧(stepD d).armed=false:=by
 have hn:¬d.dead=true:=by rw[hd];simp
 have e:stepD d={ d with steps:=d.steps+1 }:=by rw[stepD,if_neg hn,if_pos (by rw[ha];rfl)]
 refine⟨by rw[stepE,if_neg hn,ha];rfl,by rw[e];exact hd,by rw[e];exact ha⟩
structure TidM(p:Nat→Bool)(xs:List Nat)(d d':DS):Prop where
 live:d'.dead=false
 arm:d'.armed=false
 room:d'.room=d.room
 ok:SOk d'.secs
 len:d'.secs.length≤d.secs.length
 from':∀s∈d'.secs,∃t∈d.secs,t.area=s.area
 kept:∀n∈xs,p n=true→∀i,(∀o,Ver d'.secs (arN n) i o→o=curOf d.secs (arN n) i)∧curOf d'.secs (arN n) i=curOf d.secs (arN n) i
 gone:∀n∈xs,p n=false→∀s∈d'.secs,s.area≠arN n
 far:∀a,(∀n∈xs,a≠arN n)→∀i,findS a i d'.secs=findS a i d.secs
theorem tidy_main(p:Nat→Bool):∀(xs:List Nat) (l:List Pl) (d:DS),xs.Pairwise (·<·)→l.map (·.1)=xs.filter p→SOk d.secs→d.dead=false→d.armed=false→(tidyR d xs l).1=0∧TidM p xs d (tidyR d xs l).2
 |[],l,d,_,_,hok,hd,ha=>by
  rw[tidyR];exact⟨rfl,hd,ha,rfl,hok,Nat.le_refl _,fun s hs=>⟨s,hs,rfl⟩,(fun n hn=>by cases hn),(fun n hn=>by cases hn),fun _ _ _=>rfl⟩
 |n::r,l,d,hx,hl,hok,hd,ha=>by
  obtain⟨hx1,hx2⟩:=List.pairwise_cons.1 hx;obtain⟨s1,s2,s3⟩:=step_free hd ha;have hroom:=(stepD_room d).1;have hne:∀m∈r,arN m≠arN n:=fun m hm e=>by have:=numArea.1 e;have:=hx1 m hm;omega
  have har:((4*n+1:Nat):Int)=arN n:=rfl;rw[tidyR,har];cases hp:p n with
  |true=>
   rw[List.filter_cons_of_pos hp]at hl;obtain⟨y,l',rfl⟩:∃y l',l=y::l':=by
    cases l with
    |nil=>cases hl
    |cons y l'=>exact⟨y,l',rfl⟩
   rw[List.map_cons,List.cons.injEq]at hl;(have hh:(y::l').head?.map Prod.fst=some n:=by show some y.1=some n;rw[hl.1]);(have hsy:syD d (arN n)={ stepD d with secs:=sy (arN n) d.secs }:=by unfold syD;rw[if_pos s1]);rw[if_pos hh,if_pos s1];obtain⟨q0,q⟩:=tidy_main p r l' (syD d (arN n)) hx2 hl.2 (by rw[hsy];exact hok.sync _) (by rw[hsy];exact s2) (by rw[hsy];exact s3);(have hsec:(syD d (arN n)).secs=sy (arN n) d.secs:=by rw[hsy]);have htl:(y::l').tail=l':=rfl;rw[htl];refine⟨q0,q.live,q.arm,q.room.trans (by rw[hsy];exact hroom),q.ok,Nat.le_trans q.len (by rw[hsec];exact Nat.le_of_eq (List.length_map ..)),fun s hs=>?_,fun m hm hpm i=>?_,fun m hm hpm=>?_,fun a hfa i=>?_⟩
   · obtain⟨t,ht,e⟩:=q.from' s hs
     rw[hsec]at ht;unfold sy at ht;obtain⟨u,hu,rfl⟩:=List.mem_map.1 ht;refine⟨u,hu,?_⟩;rw[←e]
     split<;>rfl
   · rcases List.mem_cons.1 hm with rfl|h1
     · have hf:=q.far (arN m) (fun k hk e=>hne k hk e.symm) i
       constructor
       · intro o ho
         have h2:=(ver_ext hf o).1 ho;rw[hsec]at h2;exact(ver_sy h2).1 rfl
       · unfold curOf at *
         rw[hf,hsec];exact vcur_sy (arN m) d.secs (arN m) i
     · obtain⟨h2,h3⟩:=q.kept m h1 hpm i
       rw[hsec,vcur_sy]at h3;refine⟨fun o ho=>?_,h3⟩;have:=h2 o ho
       rwa [hsec,vcur_sy]at this
   · rcases List.mem_cons.1 hm with rfl|h1
     · rw[hp]at hpm;cases hpm
     · exact q.gone m h1 hpm
   · rw[q.far a (fun m hm=>hfa m (List.mem_cons_of_mem _ hm)) i,hsec,find_sy]
     have hna:=hfa n (List.mem_cons_self ..);cases hfs:findS a i d.secs with
     |none=>rfl
     |some s=>
      have:=(findS_at hfs).1;show some (if s.area=arN n then syS s else s)=some s;rw[if_neg (by rw[this];exact hna)]
  |false=>
   rw[List.filter_cons_of_neg (by rw[hp];decide)]at hl;have hh:¬l.head?.map Prod.fst=some n:=by
    intro e;cases l with
    |nil=>cases e
    |cons y l'=>
     have e1:y.1=n:=Option.some.inj e;(have:y.1∈r.filter p:=by rw[←hl];exact List.mem_cons_self ..);have:=hx1 y.1 (List.mem_filter.1 this).1;omega
   (have hfr:frD d (arN n)={ stepD d with secs:=fr (arN n) d.secs }:=by unfold frD;rw[if_pos s1]);rw[if_neg hh,if_pos s1];obtain⟨q0,q⟩:=tidy_main p r l (frD d (arN n)) hx2 hl (by rw[hfr];exact hok.free _) (by rw[hfr];exact s2) (by rw[hfr];exact s3);(have hsec:(frD d (arN n)).secs=fr (arN n) d.secs:=by rw[hfr]);refine⟨q0,q.live,q.arm,q.room.trans (by rw[hfr];exact hroom),q.ok,Nat.le_trans q.len (by rw[hsec];exact List.length_filter_le ..),fun s hs=>?_,fun m hm hpm i=>?_,fun m hm hpm=>?_,fun a hfa i=>?_⟩
   · obtain⟨t,ht,e⟩:=q.from' s hs
     rw[hsec]at ht;exact⟨t,(fr_mem t ht).1,e⟩
   · rcases List.mem_cons.1 hm with rfl|h1
     · rw[hp]at hpm;cases hpm
     · obtain⟨h2,h3⟩:=q.kept m h1 hpm i
       rw[hsec,vcur_fr,if_neg (hne m h1)]at h3;refine⟨fun o ho=>?_,h3⟩;have:=h2 o ho
       rwa [hsec,vcur_fr,if_neg (hne m h1)]at this
   · rcases List.mem_cons.1 hm with rfl|h1
     · intro s hs
       obtain⟨t,ht,e⟩:=q.from' s hs;rw[hsec]at ht;rw[←e];exact(fr_mem t ht).2
     · exact q.gone m h1 hpm
   · rw[q.far a (fun m hm=>hfa m (List.mem_cons_of_mem _ hm)) i,hsec,find_fr,if_neg (hfa n (List.mem_cons_self ..))]
theorem textF_ext{S T:List Sec}{a:Int}(h:∀i:Nat,curOf T a (i:Int)=curOf S a (i:Int)):∀(f i:Nat),textF T a f i=textF S a f i
 |0,_=>rfl
 |f+1,i=>by
  rw[textF,textF,h i,textF_ext h f (i+1)]
theorem segAt_ext{S T:List Sec}{n:Nat}(h:∀i:Nat,curOf T (arN n) (i:Int)=curOf S (arN n) (i:Int)):segAt T n=segAt S n:=by
 unfold segAt;have:textS T ((4*n+1:Nat):Int)=textS S ((4*n+1:Nat):Int):=textF_ext h 65536 0;rw[this]
def segNs(S:List Sec)(ns:List Nat):List SegN:=ns.filterMap fun n=>(segAt S n).map fun s=>(n,s)
theorem segNs_srs(S:List Sec):∀ns:List Nat,srs (segNs S ns)=segsOf S ns∧(segNs S ns).map plS=plsOf S ns∧(segNs S ns).map (·.1)=ns.filter fun n=>(segAt S n).isSome
 |[]=>⟨rfl,rfl,rfl⟩
 |n::r=>by
  obtain⟨h1,h2,h3⟩:=segNs_srs S r;unfold segNs segsOf plsOf at *;cases hs:segAt S n with
  |none=>
   rw[List.filterMap_cons_none (by rw[hs];rfl),List.filterMap_cons_none hs,List.filterMap_cons_none (by rw[hs];rfl),List.filter_cons_of_neg (by rw[hs];decide)];exact⟨h1,h2,h3⟩
  |some s=>
   rw[List.filterMap_cons_some (b:=(n,s)) (by rw[hs];rfl),List.filterMap_cons_some hs,List.filterMap_cons_some (b:=(n,s.1)) (by rw[hs];rfl),List.filter_cons_of_pos (by rw[hs];rfl)];exact⟨by rw[←h1];rfl,by rw[←h2];rfl,by rw[←h3];rfl⟩
theorem segNs_mem{S:List Sec}{ns:List Nat}{x:SegN}(h:x∈segNs S ns):x.1∈ns∧segAt S x.1=some x.2:=by
 unfold segNs at h;obtain⟨n,hn,e⟩:=List.mem_filterMap.1 h;cases hs:segAt S n with
 |none=>rw[hs]at e;cases e
 |some s=>
  rw[hs]at e;have e2:(n,s)=x:=Option.some.inj e;rw[←e2];exact⟨hn,hs⟩
theorem last_le:∀(l:List Nat) (x:Nat),l.Pairwise (·<·)→l.getLast?=some x→∀y∈l,y≤x
 |[],_,_,h,_,_=>by cases h
 |[a],x,_,h,y,hy=>by
  have:a=x:=by simpa using h
  rw[List.mem_singleton.1 hy,this];exact Nat.le_refl _
 |a::b::r,x,hp,h,y,hy=>by
  obtain⟨h1,h2⟩:=List.pairwise_cons.1 hp;have h3:(b::r).getLast?=some x:=by rwa [List.getLast?_cons_cons]at h
  rcases List.mem_cons.1 hy with rfl|h4
  · have:=last_le (b::r) x h2 h3 b (List.mem_cons_self ..)
    have:=h1 b (List.mem_cons_self ..);omega
  · exact last_le (b::r) x h2 h3 y h4
theorem next_gt{d:DS}{fr:Nat}(hp:(numsN d).Pairwise (·<·)):∀n∈numsN d,n<nextN d fr:=by
 intro n hn;unfold nextN;cases hl:(numsN d).getLast? with
 |none=>
  rw[List.getLast?_eq_none_iff.1 hl]at hn;cases hn
 |some x=>
  have:=last_le _ x hp hl n hn;show n<max fr (x+1);omega
theorem next_le{d:DS}{fr K:Nat}(hf:fr≤K)(h:∀n∈numsN d,n<K):nextN d fr≤K:=by
 unfold nextN;cases hl:(numsN d).getLast? with
 |none=>exact hf
 |some x=>
  have:=h x (List.mem_of_getLast? hl);show max fr (x+1)≤K;omega
theorem open_well{t:DS}{f0 K:Nat}(hok:SOk t.secs)(hd:t.dead=false)(ha:t.armed=false)(hch:ch none (segsOf t.secs (numsN t)))(hsm:∀s∈segsOf t.secs (numsN t),SmS s)(hK:∀n∈numsN t,n<K)(hK2:K≤1152921504606846976)(hf0:f0≤2305843009213693952):
 ∃g,openG t 0 f0=(0,g)∧LI f0 g (segNs t.secs (numsN t)) none∧g.next≤K∧g.sector=0∧g.tl=[]∧g.d.armed=false∧g.d.room=t.room∧g.d.secs.length≤t.secs.length∧g.l.length≤(numsN t).length ∧
  (match fo none (segsOf t.secs (numsN t))with|none=>g.first=f0∧g.L=[]|some B=>g.first=B.1∧g.L=B.2):=by
 obtain⟨n1,n2⟩:=nums_mem hok.sorted (fun s hs=>(hok.area s hs).1);have hnx:nextN t 0≤K:=next_le (Nat.zero_le _) hK;have hfil:(numsN t).filter (fun n=>decide (0≤n))=numsN t:=List.filter_eq_self.2 fun n _=>decide_eq_true (Nat.zero_le n)
 have hst:stG (startG t 0 f0)=none:=if_pos rfl;have htk:=takesG_fo 0 (numsN t) (startG t 0 f0) (by rw[hst,hfil];exact hch) (by rw[hfil];exact fun s hs=>(hsm s hs).end);rw[hfil]at htk;obtain⟨e1,e2,e3⟩:=segNs_srs t.secs (numsN t);obtain⟨g1,hg1⟩:∃g1,laidG (startG t 0 f0) (numsN t)=g1:=⟨_,rfl⟩;rw[hg1]at htk;have hg:g1.d=t∧g1.next=nextN t 0∧g1.area=4*nextN t 0+1∧g1.sector=0∧g1.tl=[]∧g1.adrift=false∧g1.fault=0∧g1.l=plsOf t.secs (numsN t)∧(match fo none (segsOf t.secs (numsN t))with|none=>g1.first=f0∧g1.L=[]|some B=>g1.first=B.1∧g1.L=B.2):=by
  rw[←hg1];unfold laidG;rw[hst];have hsd:(startG t 0 f0).d=t:=rfl;rw[hsd];cases hfo:fo none (segsOf t.secs (numsN t))with
  |none=>
   have hnil:segsOf t.secs (numsN t)=[]:=by
    cases hl:segsOf t.secs (numsN t)with
    |nil=>rfl
    |cons s q=>
     rw[hl]at hfo;obtain⟨B,hB⟩:=fo_cons s q none;rw[hB]at hfo;cases hfo
   have hpn:plsOf t.secs (numsN t)=[]:=by
    rw[←e2];rw[hnil]at e1;rw[List.map_eq_nil_iff.1 e1];rfl
   exact⟨rfl,rfl,rfl,rfl,rfl,rfl,rfl,by rw[hpn];rfl,rfl,rfl⟩
  |some B=>exact⟨rfl,rfl,rfl,rfl,rfl,rfl,rfl,rfl,rfl,rfl⟩
 obtain⟨a1,a2,a3,a4,a5,a6,a7,a8,a9⟩:=hg;have hnum:g1.l.map (·.1)=(numsN t).filter fun n=>(segAt t.secs n).isSome:=by
  rw[a8,←e2,List.map_map,←e3];rfl
 obtain⟨q0,q⟩:=tidy_main (fun n=>(segAt t.secs n).isSome) (numsN t) g1.l t n2 hnum hok hd ha;have hop:openG t 0 f0=(0,{ g1 with d:=(tidyR t (numsN t) g1.l).2 }):=by
  unfold openG;rw[if_neg (by rw[hd];decide),if_neg (by omega),htk,if_neg (by simp)];show tidyG g1 (numsN t)=_;unfold tidyG;rw[a1,q0]
 refine⟨_,hop,?_,by show g1.next≤K;rw[a2];exact hnx,a4,a5,q.arm,q.room,q.len,by show g1.l.length≤_;rw[a8];exact List.length_filterMap_le ..,a9⟩;have e0:segNs t.secs (numsN t)++cuL none=segNs t.secs (numsN t):=List.append_nil _;have hsub:((segNs t.secs (numsN t)).map (·.1)).Sublist (numsN t):=by rw[e3];exact List.filter_sublist
 refine⟨⟨q.ok,fun n hn=>?_,?_,fun x hx=>?_,fun x hx=>?_,(fun x k e=>by cases e),(fun x k e=>by cases e),?_⟩,q.live,a7,a6,?_,fun _=>⟨by show g1.area=4*g1.next+1;rw[a3,a2],a4,a5⟩,(fun x k e=>by cases e),fun x hx=>?_,?_⟩
 · rw[e0,e3]
   obtain⟨m1,_⟩:=nums_mem q.ok.sorted (fun s hs=>(q.ok.area s hs).1);obtain⟨s,hs1,hs2⟩:=(m1 n).1 hn;obtain⟨u,hu1,hu2⟩:=q.from' s hs1;have hnt:n∈numsN t:=(n1 n).2 ⟨u,hu1,by rw[hu2,hs2]⟩;refine List.mem_filter.2 ⟨hnt,?_⟩;cases hp:(segAt t.secs n).isSome with
   |true=>rfl
   |false=>exact absurd hs2 (q.gone n hnt hp s hs1)
 · rw[e0]
   exact n2.sublist hsub
 · obtain⟨h1,h2⟩:=segNs_mem hx
   intro T hT;rw[←h2];(refine segAt_ext fun i=>?_);exact(q.kept x.1 h1 (by show(segAt t.secs x.1).isSome=true;rw[h2];rfl) (i:Int)).1 _ (hT i)
 · rw[e0]at hx
   refine hsm x.2 ?_;rw[←e1];exact List.mem_map.2 ⟨x,hx,rfl⟩
 · rw[e0,e1]
   exact hch
 · show g1.l=(segNs t.secs (numsN t)++cuL none).map plS
   rw[e0,e2];exact a8
 · rw[e0]at hx
   show x.1<g1.next
   rw[a2];exact next_gt n2 x.1 (segNs_mem hx).1
 · rw[e0,e1]
   show Tells f0 (fo none (segsOf t.secs (numsN t))) g1.first g1.L;cases hfo:fo none (segsOf t.secs (numsN t))with
   |none=>rw[hfo]at a9;exact a9
   |some B=>
    rw[hfo]at a9;obtain⟨b1,b2⟩:=a9;exact⟨by omega,by omega,by rw[b1,b2,Nat.sub_self,List.drop_zero]⟩
end Go.Proofs.YthecngkdmnadoaaGreat

namespace Go.Proofs.YthecngkdmnadoaaGreat
open Go.RowKit
set_option maxRecDepth 100000
def Un(d:DS):Prop:=d.dead=false∧d.armed=false
theorem un_step{d:DS}(h:Un d):Un (stepD d):=⟨(step_free h.1 h.2).2.1,(step_free h.1 h.2).2.2⟩
theorem un_sy{d:DS}(h:Un d)(a:Int):Un (syD d a):=by
 unfold syD
 split
 · exact un_step h
 · exact un_step h
theorem un_fr{d:DS}(h:Un d)(a:Int):Un (frD d a):=by
 unfold frD
 split
 · exact un_step h
 · exact un_step h
theorem un_wr{d:DS}(h:Un d)(a n:Int)(xs:List Nat):Un (wrD d a n xs):=by
 unfold wrD
 split
 · exact h
 · split
   · exact h
   · split
     · exact h
     · exact un_step h
theorem un_lay(a:Nat):∀(f:Nat) (d:DS) (s:Nat) (left:List Nat),Un d→Un (layF a f d s left).d
 |0,_,_,_,h=>h
 |f+1,d,s,left,h=>by
  rw[layF]
  split
  · split
    · exact un_lay a f _ _ _ (un_wr h _ _ _)
    · exact un_wr h _ _ _
  · split
    · exact h
    · exact un_wr h _ _ _
theorem un_frs:∀(l:List Pl) (d:DS),Un d→Un (frsR d l).2
 |[],_,h=>h
 |x::r,d,h=>by
  rw[frsR]
  split
  · exact un_frs r _ (un_fr h _)
  · exact un_fr h _
theorem un_ff{d:DS}(h:Un d)(a:Int)(ix:Nat)(l:List Pl):Un (ffR d a ix l).2:=by
 unfold ffR
 split
 · split
   · exact un_frs _ _ (un_sy h a)
   · exact un_sy h a
 · exact h
theorem un_ahead{d:DS}(h:Un d)(a:Int)(l:List Pl)(i:Nat):Un (aheadR d a l i).2:=by
 unfold aheadR
 split
 · exact h
 · split
   · exact un_frs _ _ (un_sy h a)
   · exact un_sy h a
theorem un_begin{g:LG}(h:Un g.d)(ix:Nat)(x:List Nat):Un (beginG g ix x).2.d:=by
 unfold beginG
 split
 · exact h
 · split
   · exact h
   · split
     · exact un_sy h _
     · split
       · exact un_lay _ _ _ _ _ (un_sy h _)
       · split
         · exact un_ff (un_lay _ _ _ _ _ (un_sy h _)) _ _ _
         · exact un_ff (un_lay _ _ _ _ _ (un_sy h _)) _ _ _
theorem un_ext{g:LG}(h:Un g.d)(x:List Nat):Un (extG g x).2.d:=by
 unfold extG
 split
 · exact un_begin h _ _
 · split
   · exact h
   · exact un_lay _ _ _ _ _ h
theorem un_keep{r:Int×LG}(h:Un r.2.d):Un (keepG r).2.d:=by rw[keepG_d];exact h
theorem un_syd{g:LG}(h:Un g.d):Un (sydG g).2.d:=by rw[sydG_g];exact un_sy h _
theorem un_sync{g:LG}(h:Un g.d):Un (syncG g).2.d:=by
 unfold syncG
 split
 · exact h
 · split
   · split
     · exact un_keep (un_begin h _ _)
     · exact un_syd (un_keep (un_begin h _ _))
   · exact un_syd h
theorem un_does{g:LG}(h:Un g.d)(k z:Int)(x:List Nat):Un (doesG g k z x).2.d:=by
 unfold doesG
 split
 · unfold appG
   split
   · exact h
   · split
     · exact h
     · split
       · exact h
       · split
         · exact un_keep (un_ext h _)
         · exact un_keep (un_ext h _)
 · split
   · exact un_sync h
   · split
     · unfold truncG
       split
       · exact h
       · split
         · exact h
         · split
           · exact h
           · split
             · exact un_keep (un_begin h _ _)
             · exact un_keep (un_begin h _ _)
     · split
       · unfold compG
         split
         · exact h
         · split
           · exact h
           · split
             · exact h
             · split
               · exact un_ahead h _ _ _
               · exact un_ahead h _ _ _
       · exact h
end Go.Proofs.YthecngkdmnadoaaGreat

namespace Go.Proofs.YthecngkdmnadoaaGreat
open Go.RowKit
set_option maxRecDepth 100000
def cntF(S:List Sec)(a i:Int):Nat:=(S.filter fun s=>decide (s.area=a∧i≤s.n)).length
theorem cntF_cons(t:Sec)(r:List Sec)(a i:Int):cntF (t::r) a i=(if t.area=a∧i≤t.n then 1 else 0)+cntF r a i:=by
 unfold cntF;rw[List.filter_cons];by_cases h:t.area=a∧i≤t.n
 · rw[if_pos (by simpa using h),if_pos h,List.length_cons]
   omega
 · rw[if_neg (by simpa using h),if_neg h]
   omega
theorem cntF_mono:∀(S:List Sec) (a i:Int),cntF S a (i+1)≤cntF S a i
 |[],_,_=>Nat.le_refl _
 |t::r,a,i=>by
  have ih:=cntF_mono r a i;rw[cntF_cons,cntF_cons];by_cases h:t.area=a∧i+1≤t.n
  · rw[if_pos h,if_pos ⟨h.1,by omega⟩]
    omega
  · rw[if_neg h]
    split<;>omega
theorem cntF_succ:∀{S:List Sec} {a i:Int},(∃s∈S,s.area=a∧s.n=i)→cntF S a (i+1)+1≤cntF S a i
 |[],a,i,h=>by obtain⟨s,hs,_⟩:=h;cases hs
 |t::r,a,i,h=>by
  have hm:=cntF_mono r a i;rw[cntF_cons,cntF_cons];by_cases ht:t.area=a∧t.n=i
  · rw[if_neg (by omega),if_pos ⟨ht.1,by omega⟩]
    omega
  · obtain⟨s,hs,hs2⟩:=h
    have hr:s∈r:=by
     rcases List.mem_cons.1 hs with rfl|h1
     · exact absurd hs2 ht
     · exact h1
    have ih:=cntF_succ (S:=r) ⟨s,hr,hs2⟩;by_cases h:t.area=a∧i+1≤t.n
    · rw[if_pos h,if_pos ⟨h.1,by omega⟩]
      omega
    · rw[if_neg h]
      split<;>omega
theorem textF_cnt(S:List Sec)(a:Int):∀(f i:Nat),(textF S a f i).length≤63*cntF S a (i:Int)
 |0,_=>Nat.zero_le _
 |f+1,i=>by
  cases hc:curOf S a (i:Int)with
  |none=>rw[textF_none hc];exact Nat.zero_le _
  |some v=>
   have hex:∃s∈S,s.area=a∧s.n=(i:Int):=by
    unfold curOf at hc;cases hf:findS a (i:Int) S with
    |none=>rw[hf]at hc;cases hc
    |some s=>exact⟨s,findS_mem hf,findS_at hf⟩
   have h1:=cntF_succ hex;have h2:(saysT v).length≤63:=by
    unfold saysT saysN;rw[List.length_take];omega
   by_cases hn:saysN v<63
   · rw[textF_last hc hn]
     omega
   · rw[textF_more hc hn,List.length_append]
     have h3:=textF_cnt S a f (i+1);(have e:(((i+1:Nat):Int))=(i:Int)+1:=by omega);rw[e]at h3;omega
theorem sum_le{α:Type}(f g:α→Nat)(l:List α)(h:∀x∈l,f x≤g x):(l.map f).sum≤(l.map g).sum:=by
 induction l with
 |nil=>exact Nat.le_refl _
 |cons x r ih=>
  have h1:=h x (List.mem_cons_self ..);have h2:=ih fun y hy=>h y (List.mem_cons_of_mem _ hy)
  simp only[List.map_cons,List.sum_cons];omega
theorem sum_cnt:∀(S:List Sec) (ns:List Nat),ns.Pairwise (·<·)→(ns.map fun n=>(S.filter fun s=>decide (s.area=arN n)).length).sum≤S.length
 |[],ns,_=>by
  induction ns with
  |nil=>exact Nat.le_refl _
  |cons n r ih=>
   simp only[List.map_cons,List.sum_cons,List.filter_nil,List.length_nil];have:=ih (List.pairwise_cons.1 (by assumption)).2;simpa using this
 |t::S,ns,hp=>by
  have ih:=sum_cnt S ns hp;have hone:(ns.map fun n=>if t.area=arN n then 1 else 0).sum≤1:=by
   clear ih
   induction ns with
   |nil=>exact Nat.zero_le _
   |cons n r ih=>
    obtain⟨h1,h2⟩:=List.pairwise_cons.1 hp;simp only[List.map_cons,List.sum_cons];by_cases e:t.area=arN n
    · have hz:(r.map fun n=>if t.area=arN n then 1 else 0).sum=0:=by
       clear ih hp h2
       induction r with
       |nil=>rfl
       |cons m q ih2=>
        have h3:=h1 m (List.mem_cons_self ..);(have h4:=ih2 fun y hy=>h1 y (List.mem_cons_of_mem _ hy));simp only[List.map_cons,List.sum_cons];rw[if_neg (fun e2=>by rw[e]at e2;unfold arN at e2;omega),h4]
      rw[if_pos e,hz];exact Nat.le_refl _
    · rw[if_neg e,Nat.zero_add]
      exact ih h2
  have hsplit:(ns.map fun n=>((t::S).filter fun s=>decide (s.area=arN n)).length).sum=(ns.map fun n=>if t.area=arN n then 1 else 0).sum+(ns.map fun n=>(S.filter fun s=>decide (s.area=arN n)).length).sum:=by
   clear ih hone hp
   induction ns with
   |nil=>rfl
   |cons n r ih=>
    simp only[List.map_cons,List.sum_cons];rw[ih];by_cases e:t.area=arN n
    · rw[List.filter_cons_of_pos (by simpa using e),if_pos e,List.length_cons]
      omega
    · rw[List.filter_cons_of_neg (by simpa using e),if_neg e]
      omega
  rw[hsplit,List.length_cons];omega
theorem tsum_bound{d:DS}(hs:d.secs.Pairwise Sec.before)(h0:∀s∈d.secs,0≤s.area):tsum d.secs (numsN d)≤63*d.secs.length∧(numsN d).length≤d.secs.length:=by
 obtain⟨_,h2⟩:=nums_mem hs h0;constructor
 · have h3:=sum_cnt d.secs (numsN d) h2
   have h4:tsum d.secs (numsN d)≤((numsN d).map fun n=>63*(d.secs.filter fun s=>decide (s.area=arN n)).length).sum:=by
    unfold tsum;(refine sum_le _ _ _ fun n _=>?_);have h5:=textF_cnt d.secs (arN n) 65536 0;refine Nat.le_trans h5 (Nat.mul_le_mul_left _ ?_);unfold cntF;refine List.Sublist.length_le ?_;have e:(d.secs.filter fun s=>decide (s.area=arN n∧((0:Nat):Int)≤s.n))=((d.secs.filter fun s=>decide (s.area=arN n)).filter fun s=>decide (((0:Nat):Int)≤s.n)):=by
     rw[List.filter_filter];(refine List.filter_congr fun s _=>?_);rw[Bool.decide_and,Bool.and_comm]
    rw[e];exact List.filter_sublist
   have h6:∀l:List Nat,(l.map fun n=>63*(d.secs.filter fun s=>decide (s.area=arN n)).length).sum=63*(l.map fun n=>(d.secs.filter fun s=>decide (s.area=arN n)).length).sum:=by
    intro l
    induction l with
    |nil=>rfl
    |cons n r ih=>
     simp only[List.map_cons,List.sum_cons];rw[ih,Nat.mul_add]
   rw[h6]at h4;omega
 · have h3:(numsN d).length≤(areasS d.secs).length:=by
    unfold numsN numsOf;rw[List.length_map,List.length_map];exact List.length_filter_le ..
   exact Nat.le_trans h3 (areas_le _)
end Go.Proofs.YthecngkdmnadoaaGreat
