/- Texts that were written apart, joined. -/
import Derived.Test.YthecngkdmnadoaaGreatG37
namespace Go.Proofs.YthecngkdmnadoaaGreat
open Go.RowKit
set_option maxRecDepth 100000
def StrsR(w:World)(v:Value)(l:List (List Nat)):Prop:=
 ∃ao cap,v = .slice ao l.length cap∧l.length≤cap∧(ao=none→cap=0)∧(0<l.length→∃b off,ao=some ⟨b,off,none⟩∧b<w.heap.size∧∀(i:Nat) (x:List Nat),l[i]?=some x→w.cell? ⟨b,off+i,none⟩=some (.string (strB x)))
theorem StrsR.below{w w':World}{v:Value}{l:List (List Nat)}(h:StrsR w v l)(hb:Below w.heap.size w w'):StrsR w' v l:=by
 obtain⟨ao,cap,e,h1,hz,h2⟩:=h;refine⟨ao,cap,e,h1,hz,fun h0=>?_⟩;obtain⟨b,off,h3,h4,h5⟩:=h2 h0;exact⟨b,off,h3,Nat.lt_of_lt_of_le h4 hb.size,fun i x hi=>(hb.cell (p:=⟨b,off+i,none⟩) h4).trans (h5 i x hi)⟩
theorem StrOwn.read{B:Nat}{w:World}{v:Value}{l:List (List Nat)}(h:StrOwn B w v l):StrsR w v l:=by
 cases l with
 |nil=>
  obtain⟨_,⟨e,_⟩|⟨g,cap,cur,e,_⟩⟩:=h
  · exact⟨none,0,e,Nat.le_refl _,fun _=>rfl,fun h0=>by simp at h0⟩
  · exact⟨_,cap,e,Nat.zero_le _,(fun h=>by cases h),fun h0=>by simp at h0⟩
 |cons y r=>
  obtain⟨g,cap,e,_,h2,h3,h4⟩:=h.cell (i:=0) rfl;exact⟨_,cap,e,h3,(fun h=>by cases h),fun _=>⟨g,0,rfl,h2,fun i x hi=>by rw[Nat.zero_add];exact h4 i x hi⟩⟩
def FitsP(f:Nat)(l:List (List Nat))(F:Nat)(R:List (List Nat)):Prop:=f≤F∧l.length=F-f+R.length∧∀(i:Nat) (x:List Nat),R[i]?=some x→l[F-f+i]?=some x
theorem FitsP.self(f:Nat)(l:List (List Nat)):FitsP f l f l:=⟨Nat.le_refl _,by omega,fun i x h=>by rw[Nat.sub_self,Nat.zero_add];exact h⟩
def FitsSays(w:World)(f:Nat)(l:List (List Nat))(F:Nat)(R:List (List Nat))(e:Ending)(w':World):Prop:=Below w.heap.size w w'∧∃t:Bool,e = .returned (.bool t)∧(FitsP f l F R→t=true)
set_option maxHeartbeats 4000000 in
theorem Fits_any(w:World)(f F:Nat)(l R:List (List Nat))(lv Rv:Value)(hl:StrsR w lv l)(hR:StrsR w Rv R)(hf:f<1099511627776)(hF:F<1099511627776)(hll:l.length<1099511627776)(hRl:R.length<1099511627776):
 Calls Tryz.prog 17 #[.int .u64 (f:Int),lv,.agg #[.int .u64 (F:Int),Rv]] w (FitsSays w f l F R):=by
 obtain⟨la,lc,rfl,hlc,-,hlcell⟩:=hl;obtain⟨Ra,Rc,rfl,hRc,-,hRcell⟩:=hR;have HL:Hid _:=hlcell;have HR:Hid _:=hRcell;have HBn:Hid (∀ob,Below w.heap.size w (w.alloc ob)):=fun ob=>(Below.refl _ w).alloc (Nat.le_refl _) _
 obtain⟨n,hn⟩:∃n,l.length=n:=⟨_,rfl⟩;obtain⟨m,hm⟩:∃m,R.length=m:=⟨_,rfl⟩;have HN:Hid (l.length=n∧R.length=m):=⟨hn,hm⟩;rw[hn]at hll hlc ⊢;rw[hm]at hRl hRc ⊢;clear hlcell hRcell hn hm;by_cases h1:F<f
 · have h1':(F:Int)<(f:Int):=by omega
   (have HE:Hid (FitsP f l F R→false=true):=fun h=>absurd h.1 (by omega));clear h1;go_enter Tryz.func17,Tryz.ntmps17;go_wp2_with fail;go_ret;exact⟨HBn.out _,false,rfl,HE.out⟩
 · have h1':¬(F:Int)<(f:Int):=by omega
   obtain⟨d,hd⟩:∃d,F-f=d:=⟨_,rfl⟩;(have hd':(F:Int)-(f:Int)=(d:Int):=by omega);(have hdl:d<1099511627776:=by omega);by_cases h2:n=d+m
   · have h2':(n:Int)=(d:Int)+(m:Int):=by omega
     go_enter Tryz.func17,Tryz.ntmps17;go_wp2_with fail;obtain⟨W,hW⟩:∃W,w.alloc (.cells #[.int .u64 (F:Int),.slice Ra m Rc] 33)=W:=⟨_,rfl⟩;(have hws:w.heap.size<W.heap.size:=by rw[←hW];simp);(have g0:W.cell? ⟨w.heap.size,0,none⟩=some (.int .u64 (F:Int)):=by rw[←hW];simp);(have g1:W.cell? ⟨w.heap.size,1,none⟩=some (.slice Ra m Rc):=by rw[←hW];simp);(have HW:Hid (Below w.heap.size w W):=by show Below _ _ _;rw[←hW];exact HBn.out _);rw[hW];clear hW
     go_loopw [8] (fun t8 wr=>∃(j k:Nat),t8 = .int .i64 j∧j≤m∧wr=W.drewN k) (fun t8 _=>m-(intOf t8).toNat)
     case atStart=>exact⟨0,0,rfl,Nat.zero_le _,rfl⟩
     case round=>
      obtain⟨j,k,rfl,hj,rfl⟩:=hrel;by_cases hlt:j<m
      · have hlt':(j:Int)<(m:Int):=by omega
        obtain⟨b1,o1,rfl,hb1,hc1⟩:=HR.out (by rw[HN.out.2];omega);obtain⟨b2,o2,rfl,hb2,hc2⟩:=HL.out (by rw[HN.out.1];omega);obtain⟨x,hx⟩:∃x,R[j]?=some x:=⟨_,List.getElem?_eq_getElem (by rw[HN.out.2];exact hlt)⟩;obtain⟨y,hy⟩:∃y,l[d+j]?=some y:=⟨_,List.getElem?_eq_getElem (by rw[HN.out.1];omega)⟩;(have hdj:(d:Int)+(j:Int)<(n:Int):=by omega);have d1:=(HW.out.cell (p:=⟨b1,o1+j,none⟩) hb1).trans (hc1 j x hx);have d2:=(HW.out.cell (p:=⟨b2,o2+(d+j),none⟩) hb2).trans (hc2 (d+j) y hy);obtain⟨dj,hdj2⟩:∃dj,d+j=dj:=⟨_,rfl⟩;(have hdj3:(d:Int)+(j:Int)=(dj:Int):=by omega);rw[hdj2]at d2;(have hdjn:(dj:Int)<(n:Int):=by omega);by_cases he:(strB y).toList=(strB x).toList
        · have he2:((strB y).toList==(strB x).toList)=true:=beq_iff_eq.2 he
          clear hc1 hc2 hx hy hdj hdj2 he;go_wp2_with fail;go_quiet (fail);go_wp2_with fail
          go_roundw
          (case rel=>exact⟨j+1,_,by go_num,by omega,rfl⟩);case measure=>simp[intOf];omega
        · have HE:Hid (FitsP f l F R→false=true):=fun h=>absurd (by have:=h.2.2 j x hx;rw[hd,hy]at this;simp only[Option.some.injEq]at this;rw[this]) he
          have he2:((strB y).toList==(strB x).toList)=false:=beq_eq_false_iff_ne.2 he;clear hc1 hc2 hx hy hdj hdj2 he;go_wp2_with fail;go_quiet (fail);go_wp2_with fail;go_ret;exact⟨below_drewN (below_drewN HW.out _) _,false,rfl,HE.out⟩
      · have hlt':¬(j:Int)<(m:Int):=by omega
        go_wp2_with fail;go_ret;exact⟨below_drewN HW.out _,true,rfl,fun _=>rfl⟩
   · have h2':¬(n:Int)=(d:Int)+(m:Int):=by omega
     (have HE:Hid (FitsP f l F R→false=true):=fun h=>absurd h.2.1 (by rw[HN.out.1,HN.out.2];omega));clear h1 h2;go_enter Tryz.func17,Tryz.ntmps17;go_wp2_with fail;go_ret;exact⟨HBn.out _,false,rfl,HE.out⟩
end Go.Proofs.YthecngkdmnadoaaGreat

namespace Go.Proofs.YthecngkdmnadoaaGreat
open Go.RowKit
set_option maxRecDepth 100000
abbrev SegN:=Nat×SR
abbrev CuN:=Option (SegN×Option Nat)
def cuL(cu:CuN):List SegN:=(cu.map (·.1)).toList
def srs(l:List SegN):List SR:=l.map (·.2)
structure SI(d:DS)(segs:List SegN)(cu:CuN):Prop where
 ok:SOk d.secs
 sub:∀n∈numsN d,n∈(segs++cuL cu).map (·.1)
 asc:((segs++cuL cu).map (·.1)).Pairwise (·<·)
 dur:∀x∈segs,DurS d.secs x.1 x.2
 sm:∀x∈segs++cuL cu,SmS x.2
 cur:∀x kd,cu=some (x,kd)→CurV d.secs x.1 x.2 kd
 kdle:∀x d,cu=some (x,some d)→d≤x.2.2.length
 chain:ch none (srs (segs++cuL cu))
def FitsO(f0:Nat)(st:Option SR)(r:SR):Prop:=match st with
 |none=>FitsP f0 [] r.1 r.2
 |some B=>FitsP B.1 B.2 r.1 r.2
structure MO(f0:Nat)(M:List SR)(segs:List SegN)(cu:CuN):Prop where
 out:(cu=none∨∃x,cu=some (x,none))→∃r∈M,FitsO f0 (fo none (srs segs)) r
 inn:∀x kd,cu=some (x,kd)→∀k,k≤x.2.2.length→(∀d,kd=some d→d≤k)→∃r∈M,FitsO f0 (fo none (srs segs++[(x.2.1,x.2.2.take k)])) r
theorem MO.more{f0:Nat}{M M':List SR}{segs:List SegN}{cu:CuN}(h:MO f0 M segs cu)(hs:∀r∈M,r∈M'):MO f0 M' segs cu:=
 ⟨fun hc=>by obtain⟨r,h1,h2⟩:=h.out hc;exact⟨r,hs r h1,h2⟩,fun x kd hc k hk hd=>by obtain⟨r,h1,h2⟩:=h.inn x kd hc k hk hd;exact⟨r,hs r h1,h2⟩⟩
def Found(f0:Nat)(M:List SR)(d:DS):Prop:=∀t:DS,SOk t.secs→View d.secs t.secs→ch none (segsOf t.secs (numsN t))∧(∀s∈segsOf t.secs (numsN t),SmS s)∧∃r∈M,FitsO f0 (fo none (segsOf t.secs (numsN t))) r
theorem segs_dur{T:List Sec}:∀(l:List SegN),(∀x∈l,segAt T x.1=some x.2)→segsOf T (l.map (·.1))=srs l
 |[],_=>rfl
 |x::r,h=>by
  have h1:=segs_dur r (fun y hy=>h y (List.mem_cons_of_mem _ hy));unfold segsOf at h1 ⊢;rw[List.map_cons,List.filterMap_cons_some (h x (List.mem_cons_self ..)),h1];rfl
theorem segsOf_append(T:List Sec)(a b:List Nat):segsOf T (a++b)=segsOf T a++segsOf T b:=List.filterMap_append ..
theorem srs_append(a b:List SegN):srs (a++b)=srs a++srs b:=List.map_append ..
theorem SI.found{d:DS}{segs:List SegN}{cu:CuN}{f0:Nat}{M:List SR}(h:SI d segs cu)(hM:MO f0 M segs cu):Found f0 M d:=by
 intro t ht hv;have hsub:∀x∈numsN t,x∈(segs++cuL cu).map (·.1):=fun x hx=>h.sub x (nums_view h.ok ht hv x hx)
 have hdur:segsOf t.secs (segs.map (·.1))=srs segs:=segs_dur segs fun x hx=>h.dur x hx t.secs (hv.area _)
 rw[(segs_list ht h.asc hsub).1,List.map_append,segsOf_append,hdur];have hsm:∀s∈srs segs,SmS s:=fun s hs=>by
  obtain⟨x,hx,rfl⟩:=List.mem_map.1 hs;exact h.sm x (List.mem_append_left _ hx)
 have hchain:=h.chain;rw[srs_append]at hchain;have hch:=(ch_append _ _ _).1 hchain;cases hcu:cu with
 |none=>
  have e:segsOf t.secs ((cuL none).map (·.1))=[]:=rfl;rw[e,List.append_nil];exact⟨hch.1,hsm,hM.out (.inl hcu)⟩
 |some c=>
  obtain⟨x,kd⟩:=c;subst hcu;have hx:=h.cur x kd rfl;have hxs:SmS x.2:=h.sm x (List.mem_append_right _ (List.mem_singleton.2 rfl));have e:segsOf t.secs ((cuL (some (x,kd))).map (·.1))=(segAt t.secs x.1).toList:=by
   show List.filterMap (segAt t.secs) [x.1]=_;cases hs:segAt t.secs x.1 with
   |none=>rw[List.filterMap_cons_none hs];rfl
   |some s=>rw[List.filterMap_cons_some hs];rfl
  rw[e];rcases hx.found hxs (hv.area _)with⟨h1,h2⟩|⟨k,h1,h2,h3⟩
  · rw[h2]
    have e0:srs segs++(none:Option SR).toList=srs segs:=List.append_nil _;rw[e0];exact⟨hch.1,hsm,hM.out (.inr ⟨x,by rw[h1]⟩)⟩
  · rw[h3]
    have hok:okN (fo none (srs segs)) x.2:=hch.2.1;refine⟨(ch_append _ _ _).2 ⟨hch.1,?_,trivial⟩,fun s hs=>?_,hM.inn x kd rfl k h1 (fun d hd=>by subst hd;have:=h2 d rfl;have:=h.kdle x d rfl;omega)⟩
    · unfold okN at hok ⊢
      cases hfo:fo none (srs segs)with
      |none=>trivial
      |some A=>
       rw[hfo]at hok;exact hok
    · rcases List.mem_append.1 hs with h4|h4
      · exact hsm s h4
      · rw[List.mem_singleton.1 h4]
        exact hxs.take k
end Go.Proofs.YthecngkdmnadoaaGreat

namespace Go.Proofs.YthecngkdmnadoaaGreat
open Go.RowKit
set_option maxRecDepth 100000
def Tells(f0:Nat)(st:Option SR)(first:Nat)(L:List (List Nat)):Prop:=match st with
 |none=>first=f0∧L=[]
 |some B=>B.1≤first∧first≤B.1+B.2.length∧L=B.2.drop (first-B.1)
theorem fits_drop{B:SR}{first:Nat}(h1:B.1≤first)(h2:first≤B.1+B.2.length):FitsP B.1 B.2 first (B.2.drop (first-B.1)):=by
 refine⟨h1,by rw[List.length_drop];omega,fun i x hx=>?_⟩;rw[List.getElem?_drop]at hx;exact hx
theorem Tells.fits{f0:Nat}{st:Option SR}{first:Nat}{L:List (List Nat)}(h:Tells f0 st first L):FitsO f0 st (first,L):=by
 cases st with
 |none=>
  obtain⟨rfl,rfl⟩:=h;exact FitsP.self _ _
 |some B=>
  obtain⟨h1,h2,rfl⟩:=h;exact fits_drop h1 h2
structure LI(f0:Nat)(g:LG)(segs:List SegN)(cu:CuN):Prop where
 si:SI g.d segs cu
 live:g.d.dead=false
 fault:g.fault=0
 adr:g.adrift=false
 pls:g.l=(segs++cuL cu).map fun x=>(x.1,x.2.1)
 cur0:cu=none→g.area=4*g.next+1∧g.sector=0∧g.tl=[]
 cur1:∀x kd,cu=some (x,kd)→g.area=4*x.1+1∧(∀i:Nat,OkV (segP x.2) (segP x.2).length (uw x.2.1).length i (curOf g.d.secs (arN x.1) (i:Int)))∧g.sector=(segP x.2).length/63∧g.tl=(segP x.2).drop (63*((segP x.2).length/63))∧∀y∈segP x.2,y<256
 next:∀x∈segs++cuL cu,x.1<g.next
 log:Tells f0 (fo none (srs (segs++cuL cu))) g.first g.L
theorem nums_secs{d d':DS}(h:d'.secs=d.secs):numsN d'=numsN d:=by
 unfold numsN;rw[h]
theorem SI.secs{d d':DS}{segs:List SegN}{cu:CuN}(h:SI d segs cu)(e:d'.secs=d.secs):SI d' segs cu:=
 ⟨by rw[e];exact h.ok,by rw[nums_secs e];exact h.sub,h.asc,by rw[e];exact h.dur,h.sm,by rw[e];exact h.cur,h.kdle,h.chain⟩
theorem nxt_more(st:Option SR)(ix:Nat)(a b:List (List Nat)):nxt st (ix,a++b)=((nxt st (ix,a)).1,(nxt st (ix,a)).2++b):=by
 cases st with
 |none=>rfl
 |some A=>
  show(if ix<A.1 then (ix,a++b)else (A.1,A.2.take (ix-A.1)++(a++b)))=((if ix<A.1 then (ix,a)else (A.1,A.2.take (ix-A.1)++a)).1,(if ix<A.1 then (ix,a)else (A.1,A.2.take (ix-A.1)++a)).2++b)
  split
  · rfl
  · simp only[List.append_assoc]
theorem fo_snoc(l:List SR)(s:SR)(st:Option SR):fo st (l++[s])=some (nxt (fo st l) s):=by
 rw[fo_append];rfl
theorem numArea{n m:Nat}:arN n=arN m↔n=m:=by
 unfold arN;omega
theorem SI.write{d:DS}{segs:List SegN}{x:SegN}{kd:Option Nat}{P:List Nat}{m h:Nat}{r:LayR}(hok:SOk d.secs)(hsub:∀n∈numsN d,n∈(segs++[x]).map (·.1))(hasc:((segs++[x]).map (·.1)).Pairwise (·<·))(hdur:∀y∈segs,DurS d.secs y.1 y.2)
 (hsm:∀y∈segs++[x],SmS y.2) (hkd:∀k,kd=some k→k≤x.2.2.length) (hch:ch none (srs (segs++[x]))) (hr:LayT d (4*x.1+1) P m h r) (hP:P=segP x.2) (hm:m=lowS x.2 kd) (hh:h=(uw x.2.1).length):SI r.d segs (some (x,kd)):=by
 subst hP hm hh;have hcuL:cuL (some (x,kd))=[x]:=rfl;obtain⟨n1,n2⟩:=nums_mem hok.sorted (fun s hs=>(hok.area s hs).1);obtain⟨n3,n4⟩:=nums_mem hr.ok.sorted (fun s hs=>(hr.ok.area s hs).1);refine⟨hr.ok,fun n hn=>?_,by rw[hcuL];exact hasc,fun y hy=>?_,by rw[hcuL];exact hsm,fun y k e=>?_,fun y k e=>?_,by rw[hcuL];exact hch⟩
 · rw[hcuL]
   obtain⟨s,hs1,hs2⟩:=(n3 n).1 hn;rcases hr.here s hs1 with e|⟨t,ht,e⟩
   · have:n=x.1:=by
      rw[hs2]at e;exact numArea.1 e
     rw[this,List.map_append];exact List.mem_append_right _ (List.mem_singleton.2 rfl)
   · exact hsub n ((n1 n).2 ⟨t,ht,by rw[e,hs2]⟩)
 · refine(hdur y hy).keep fun i o ho=>?_
   have hne:arN y.1≠((4*x.1+1:Nat):Int):=by
    intro e;have e2:y.1=x.1:=numArea.1 e;rw[List.map_append,List.pairwise_append]at hasc;have:=hasc.2.2 y.1 (List.mem_map.2 ⟨y,hy,rfl⟩) x.1 (by simp);omega
   exact(ver_ext (hr.far _ hne _) o).1 ho
 · simp only[Option.some.injEq,Prod.mk.injEq]at e
   obtain⟨rfl,rfl⟩:=e;exact hr.ver
 · simp only[Option.some.injEq,Prod.mk.injEq]at e
   obtain⟨rfl,rfl⟩:=e;exact hkd k rfl
theorem LI.append{f0:Nat}{g:LG}{segs:List SegN}{n ix:Nat}{recs:List (List Nat)}{kd:Option Nat}{x:List Nat}(h:LI f0 g segs (some ((n,(ix,recs)),kd)))(hx:x.length≤512)(hb:∀y∈x,y<256)(hs:g.sector≤40)(hr:(g.d.secs.length:Int)+60<g.d.room)(hn:g.next≤1152921504606846976):
 SI (layR g.d g.area g.sector (g.tl++recW x)).d segs (some ((n,(ix,recs++[x])),kd)) ∧
 (((layR g.d g.area g.sector (g.tl++recW x)).e=30∧(layR g.d g.area g.sector (g.tl++recW x)).d.dead=true) ∨
  ((layR g.d g.area g.sector (g.tl++recW x)).e=0∧LI f0 { g with d:=(layR g.d g.area g.sector (g.tl++recW x)).d,sector:=(layR g.d g.area g.sector (g.tl++recW x)).sector,tl:=(layR g.d g.area g.sector (g.tl++recW x)).tail.getD g.tl,L:=g.L++[x] } segs (some ((n,(ix,recs++[x])),kd)))) ∧
 (layR g.d g.area g.sector (g.tl++recW x)).d.room=g.d.room∧(layR g.d g.area g.sector (g.tl++recW x)).d.secs.length≤g.d.secs.length+60:=by
 obtain⟨c1,c2,c3,c4,c5⟩:=h.cur1 _ _ rfl
 dsimp only at c1 c2 c3 c4 c5
 have hcuL:cuL (some ((n,(ix,recs)),kd))=[(n,(ix,recs))]:=rfl;have hPl:(segP (ix,recs)).length<63*41:=by
  have h2:=congrArg List.length c4;rw[List.length_drop]at h2;omega
 have hrl:(recW x).length≤522:=by
  unfold recW;rw[List.length_append];have:=uw_len10 (n:=x.length) (by omega);omega
 have hP':segP (ix,recs++[x])=segP (ix,recs)++recW x:=by
  rw[segP_append];congr 1;show recW x++[]=recW x;rw[List.append_nil]
 have hxb:∀y∈recW x,y<256:=fun y hy=>by
  rcases List.mem_append.1 hy with h1|h1
  · exact uw_byte _ y h1
  · exact hb y h1
 have hsm:=h.si.sm (n,(ix,recs)) (List.mem_append_right _ (List.mem_singleton.2 rfl));have hixl:(uw ix).length≤10:=(uw_len10 (by have:=hsm.ix;dsimp only at this;omega)).2;have hnn:=h.next (n,(ix,recs)) (List.mem_append_right _ (List.mem_singleton.2 rfl))
 dsimp only at hnn
 have hPa:(segP (ix,recs)++recW x).length=(segP (ix,recs)).length+(recW x).length:=List.length_append ..;have hlow:lowS (ix,recs++[x]) kd=lowS (ix,recs) kd:=by
  cases kd with
  |none=>rfl
  |some d=>
   have:=h.si.kdle _ d rfl
   dsimp only at this
   show(segP (ix,(recs++[x]).take d)).length=(segP (ix,recs.take d)).length;rw[List.take_append_of_le_length this]
 have hlowle:lowS (ix,recs) kd≤(segP (ix,recs)).length:=by
  cases kd with
  |none=>exact Nat.zero_le _
  |some d=>
   show(segP (ix,recs.take d)).length≤_;rw[segP_len,segP_len];have:=recsW_take_le recs d
   dsimp only
   omega
 have hmul:63≥(uw ix).length:=by omega
 have huP:(uw ix).length≤(segP (ix,recs)).length:=by rw[segP_len];exact Nat.le_add_right _ _
 have hT:=lay_text (d:=g.d) (a:=4*n+1) (P:=segP (ix,recs)) (x:=recW x) (m:=lowS (ix,recs) kd) (h:=(uw ix).length) h.si.ok h.live (h.si.cur _ _ rfl) c2 hlowle (by omega) hmul (by rw[hPa];omega) (by rw[hPa];omega) (fun y hy=>(List.mem_append.1 hy).elim (c5 y) (hxb y)) (by omega);rw[←c4,←c3,←c1]at hT;have hroom:=hT.room;have hlen:=hT.len;rw[hPa]at hlen;have hSI:SI (layR g.d g.area g.sector (g.tl++recW x)).d segs (some ((n,(ix,recs++[x])),kd)):=by
  have hsub:=h.si.sub;have hasc:=h.si.asc;have hch:=h.si.chain;rw[hcuL]at hsub hasc hch;rw[c1]at hT ⊢;refine SI.write (x:=(n,(ix,recs++[x]))) (P:=segP (ix,recs)++recW x) (m:=lowS (ix,recs) kd) (h:=(uw ix).length) h.si.ok (by simpa using hsub) (by simpa using hasc) h.si.dur (fun y hy=>?_) (fun k hk=>?_) ?_ hT hP'.symm hlow.symm rfl
  · rcases List.mem_append.1 hy with h1|h1
    · exact h.si.sm y (List.mem_append_left _ h1)
    · rw[List.mem_singleton.1 h1]
      refine⟨hsm.ix,fun z hz=>?_,by show(segP (ix,recs++[x])).length<_;rw[hP',hPa];omega⟩;rcases List.mem_append.1 hz with h2|h2
      · exact hsm.recs z h2
      · rw[List.mem_singleton.1 h2];exact hx
  · have:=h.si.kdle _ k (by rw[hk])
    dsimp only at this ⊢
    rw[List.length_append];omega
  · rw[srs_append]at hch ⊢
    obtain⟨h1,h2⟩:=(ch_append _ _ _).1 hch;refine(ch_append _ _ _).2 ⟨h1,?_,trivial⟩;have h3:okN (fo none (srs segs)) (ix,recs):=h2.1;unfold okN at h3 ⊢;cases hfo:fo none (srs segs)with
    |none=>trivial
    |some A=>rw[hfo]at h3;exact h3
 refine⟨hSI,?_,hroom,by omega⟩;rcases hT.e with⟨e1,e2⟩|⟨e1,e2⟩
 · right
   obtain⟨s1,s2⟩:=hT.seg e1;refine⟨e1,hSI,e2,h.fault,h.adr,?_,fun hc=>(by cases hc),fun y k hc=>?_,fun y hy=>?_,?_⟩
   · have:=h.pls
     rw[hcuL,List.map_append]at this;(show g.l=(segs++[(n,(ix,recs++[x]))]).map fun x=>(x.1,x.2.1));rw[List.map_append];exact this
   · simp only[Option.some.injEq,Prod.mk.injEq]at hc
     obtain⟨rfl,rfl⟩:=hc
     dsimp only
     rw[hP'];have hcur:=hT.cur e1;refine⟨c1,fun i=>?_,s1,by rw[s2];rfl,fun y hy=>(List.mem_append.1 hy).elim (c5 y) (hxb y)⟩;(have e5:((g.area:Nat):Int)=arN n:=by rw[c1];rfl);rw[←e5];exact hcur i
   · rcases List.mem_append.1 hy with h1|h1
     · exact h.next y (List.mem_append_left _ h1)
     · rw[List.mem_singleton.1 h1];exact hnn
   · have hlog:=h.log
     show Tells f0 (fo none (srs (segs++[(n,(ix,recs++[x]))]))) g.first (g.L++[x]);rw[hcuL,srs_append]at hlog;rw[srs_append];have e3:fo none (srs segs++srs [(n,(ix,recs))])=some (nxt (fo none (srs segs)) (ix,recs)):=fo_snoc _ _ _;have e4:fo none (srs segs++srs [(n,(ix,recs++[x]))])=some (nxt (fo none (srs segs)) (ix,recs++[x])):=fo_snoc _ _ _;rw[e3]at hlog;rw[e4,nxt_more];obtain⟨t1,t2,t3⟩:=hlog;refine⟨t1,by show g.first≤_+(_++[x]).length;rw[List.length_append];omega,?_⟩;show g.L++[x]=((nxt (fo none (srs segs)) (ix,recs)).2++[x]).drop (g.first-(nxt (fo none (srs segs)) (ix,recs)).1);rw[List.drop_append_of_le_length (by omega),←t3]
 · exact .inl ⟨e1,e2⟩
end Go.Proofs.YthecngkdmnadoaaGreat

namespace Go.Proofs.YthecngkdmnadoaaGreat
open Go.RowKit
set_option maxRecDepth 100000
theorem SOk.free{S:List Sec}(h:SOk S)(a:Int):SOk (fr a S):=by
 refine⟨fr_sorted h.sorted,fun s hs=>h.area s (List.mem_filter.1 hs).1,fun s hs=>h.num s (List.mem_filter.1 hs).1,fun s hs=>h.there s (List.mem_filter.1 hs).1,fun a' n v hv=>?_⟩;have:=ver_fr.1 hv
 split at this
 · cases this
 · exact h.bytes a' n v this
theorem SOk.sync{S:List Sec}(h:SOk S)(a:Int):SOk (sy a S):=by
 have hm:∀s∈sy a S,∃t∈S,s.area=t.area∧s.n=t.n∧s.cur=t.cur:=by
  intro s hs;unfold sy at hs;obtain⟨t,ht,rfl⟩:=List.mem_map.1 hs;refine⟨t,ht,?_⟩
  split
  · exact⟨rfl,rfl,rfl⟩
  · exact⟨rfl,rfl,rfl⟩
 refine⟨sy_sorted h.sorted,fun s hs=>?_,fun s hs=>?_,fun s hs=>?_,fun a' n v hv=>h.bytes a' n v (ver_sy hv).2⟩
 · obtain⟨t,ht,e,_⟩:=hm s hs
   rw[e];exact h.area t ht
 · obtain⟨t,ht,_,e,_⟩:=hm s hs
   rw[e];exact h.num t ht
 · obtain⟨t,ht,_,_,e⟩:=hm s hs
   rw[e];exact h.there t ht
theorem nums_of{S:List Sec}{d d':DS}(hok:SOk d.secs)(hok':SOk d'.secs)(hS:d'.secs=S)(hm:∀s∈S,∃t∈d.secs,t.area=s.area):∀n∈numsN d',n∈numsN d∧∃s∈S,s.area=arN n:=by
 obtain⟨n1,_⟩:=nums_mem hok.sorted (fun s hs=>(hok.area s hs).1);obtain⟨n3,_⟩:=nums_mem hok'.sorted (fun s hs=>(hok'.area s hs).1);intro n hn;obtain⟨s,hs1,hs2⟩:=(n3 n).1 hn;rw[hS]at hs1;obtain⟨t,ht,e⟩:=hm s hs1;exact⟨(n1 n).2 ⟨t,ht,by rw[e,hs2]⟩,s,hs1,hs2⟩
theorem fr_mem{a:Int}{S:List Sec}:∀s∈fr a S,s∈S∧s.area≠a:=by
 intro s hs;obtain⟨h1,h2⟩:=List.mem_filter.1 hs;exact⟨h1,by simpa using h2⟩
theorem SI.free{d d':DS}{a b:List SegN}{x:SegN}{cu:CuN}(h:SI d (a++x::b) cu)(hd:d'.secs=fr (arN x.1) d.secs)(hch:ch none (srs (a++b++cuL cu))):SI d' (a++b) cu:=by
 have hok':SOk d'.secs:=by rw[hd];exact h.ok.free _
 have hasc:=h.asc;have hsub:(a++b++cuL cu).Sublist (a++x::b++cuL cu):=by
  simp only[List.append_assoc,List.cons_append];exact List.Sublist.append (List.Sublist.refl _) (List.sublist_cons_self ..)
 have hne:∀y∈a++b++cuL cu,y.1≠x.1:=by
  intro y hy e;simp only[List.append_assoc,List.cons_append,List.map_append,List.map_cons]at hasc;rw[List.pairwise_append]at hasc;obtain⟨_,h2,h3⟩:=hasc;obtain⟨h4,_⟩:=List.pairwise_cons.1 h2;simp only[List.append_assoc]at hy;rcases List.mem_append.1 hy with h5|h5
  · have:=h3 y.1 (List.mem_map.2 ⟨y,h5,rfl⟩) x.1 (List.mem_cons_self ..)
    omega
  · have:=h4 y.1 (by rw[←List.map_append];exact List.mem_map.2 ⟨y,h5,rfl⟩)
    omega
 have hkeep:∀y∈a++b++cuL cu,∀(i:Nat) o,Ver d'.secs (arN y.1) (i:Int) o→Ver d.secs (arN y.1) (i:Int) o:=by
  intro y hy i o ho;rw[hd]at ho;have:=ver_fr.1 ho
  rwa [if_neg (fun e=>hne y hy (numArea.1 e))]at this
 refine⟨hok',fun n hn=>?_,?_,fun y hy=>?_,fun y hy=>h.sm y (hsub.subset hy),fun y kd e=>?_,h.kdle,hch⟩
 · obtain⟨h1,s,hs,hs2⟩:=nums_of h.ok hok' hd (fun s hs=>⟨s,(fr_mem s hs).1,rfl⟩) n hn
   have h2:=h.sub n h1;(have h3:n≠x.1:=fun e=>(fr_mem s hs).2 (by rw[hs2,e]));simp only[List.append_assoc,List.cons_append,List.map_append,List.map_cons,List.mem_append,List.mem_cons]at h2 ⊢;rcases h2 with h2|h2|h2|h2
   · exact .inl h2
   · exact absurd h2 h3
   · exact .inr (.inl h2)
   · exact .inr (.inr h2)
 · exact hasc.sublist (hsub.map _)
 · refine(h.dur y ?_).keep (hkeep y (List.mem_append_left _ hy))
   rcases List.mem_append.1 hy with h1|h1
   · exact List.mem_append_left _ h1
   · exact List.mem_append_right _ (List.mem_cons_of_mem _ h1)
 · exact fun i o ho=>h.cur y kd e i o (hkeep y (List.mem_append_right _ (by rw[e];exact List.mem_singleton.2 rfl)) i o ho)
theorem SI.sync{d d':DS}{segs:List SegN}{x:SegN}{kd:Option Nat}(h:SI d segs (some (x,kd)))(hc:∀i:Nat,OkV (segP x.2) (segP x.2).length (uw x.2.1).length i (curOf d.secs (arN x.1) (i:Int)))(hd:d'.secs=sy (arN x.1) d.secs):SI d' segs (some (x,some x.2.2.length))∧SI d' (segs++[x]) none:=by
 have hok':SOk d'.secs:=by rw[hd];exact h.ok.sync _
 have hcuL:∀k,cuL (some (x,k))=[x]:=fun _=>rfl
 have hsub:=h.sub;have hasc:=h.asc;have hch:=h.chain;have hsm:=h.sm;rw[hcuL]at hsub hasc hch hsm;have hnum:∀n∈numsN d',n∈(segs++[x]).map (·.1):=fun n hn=>hsub n (nums_of h.ok hok' hd (fun s hs=>by
  unfold sy at hs;obtain⟨t,ht,rfl⟩:=List.mem_map.1 hs;exact⟨t,ht,by split<;>rfl⟩) n hn).1
 have hdur:∀y∈segs,DurS d'.secs y.1 y.2:=fun y hy=>(h.dur y hy).keep fun i o ho=>by
  rw[hd]at ho;exact(ver_sy ho).2
 have hcs:CurS d'.secs x.1 x.2 (some x.2.2.length):=by
  rw[hd];exact CurS.sync (kd:=kd) ⟨h.cur x kd rfl,hc⟩
 refine⟨⟨hok',by rw[hcuL];exact hnum,by rw[hcuL];exact hasc,hdur,by rw[hcuL];exact hsm,fun y k e=>?_,fun y k e=>?_,by rw[hcuL];exact hch⟩,⟨hok',?_,?_,fun y hy=>?_,?_,(fun y k e=>by cases e),(fun y k e=>by cases e),?_⟩⟩
 · simp only[Option.some.injEq,Prod.mk.injEq]at e
   obtain⟨rfl,rfl⟩:=e;exact hcs.ver
 · simp only[Option.some.injEq,Prod.mk.injEq]at e
   obtain⟨rfl,rfl⟩:=e;exact Nat.le_refl _
 · show ∀n∈numsN d',n∈(segs++[x]++([]:List SegN)).map (·.1)
   rw[List.append_nil];exact hnum
 · show((segs++[x]++([]:List SegN)).map (·.1)).Pairwise (·<·)
   rw[List.append_nil];exact hasc
 · rcases List.mem_append.1 hy with h1|h1
   · exact hdur y h1
   · rw[List.mem_singleton.1 h1]
     exact hcs.dur (hsm x (List.mem_append_right _ (List.mem_singleton.2 rfl)))
 · show ∀y∈segs++[x]++[],SmS y.2
   rw[List.append_nil];exact hsm
 · show ch none (srs (segs++[x]++([]:List SegN)))
   rw[List.append_nil];exact hch
def remS(ix m:Nat)(l:List SegN):List SegN:=l.take m++(l.drop m).filter fun x=>decide (x.2.1<ix)
theorem rem_all(ix:Nat)(l:List SegN):remS ix l.length l=l:=by
 unfold remS;rw[List.take_length,List.drop_length];exact List.append_nil _
theorem rem_zero(ix:Nat)(l:List SegN):remS ix 0 l=l.filter fun x=>decide (x.2.1<ix):=rfl
theorem rem_low{ix m:Nat}{l:List SegN}{x:SegN}(h:l[m]?=some x)(hx:x.2.1<ix):remS ix (m+1) l=remS ix m l:=by
 unfold remS;have hd:l.drop m=x::l.drop (m+1):=by
  obtain⟨h1,h2⟩:=List.getElem?_eq_some_iff.1 h;rw[←h2,List.drop_eq_getElem_cons h1]
 rw[hd,List.filter_cons_of_pos (by simpa using hx),List.take_add_one,h];simp only[Option.toList_some,List.append_assoc,List.singleton_append]
theorem rem_high{ix m:Nat}{l:List SegN}{x:SegN}(h:l[m]?=some x)(hx:¬x.2.1<ix):remS ix (m+1) l=l.take m++x::((l.drop (m+1)).filter fun x=>decide (x.2.1<ix))∧remS ix m l=l.take m++((l.drop (m+1)).filter fun x=>decide (x.2.1<ix)):=by
 unfold remS;have hd:l.drop m=x::l.drop (m+1):=by
  obtain⟨h1,h2⟩:=List.getElem?_eq_some_iff.1 h;rw[←h2,List.drop_eq_getElem_cons h1]
 rw[hd,List.filter_cons_of_neg (by simpa using hx),List.take_add_one,h];simp only[Option.toList_some,List.append_assoc,List.singleton_append,and_self]
theorem srs_filter(ix:Nat):∀l:List SegN,srs (l.filter fun x=>decide (x.2.1<ix))=(srs l).filter fun s=>decide (s.1<ix)
 |[]=>rfl
 |x::r=>by
  have ih:=srs_filter ix r;have e:srs (x::r)=x.2::srs r:=rfl;by_cases h:x.2.1<ix
  · rw[List.filter_cons_of_pos (by simpa using h),e,List.filter_cons_of_pos (by simpa using h),←ih]
    rfl
  · rw[List.filter_cons_of_neg (by simpa using h),e,List.filter_cons_of_neg (by simpa using h),ih]
theorem rem_fold{ix:Nat}{l:List SegN}(m:Nat)(r:List (List Nat))(hc:ch none (srs l))(hb:∀B,fo none (srs l)=some B→B.1≤ix∧ix≤B.1+B.2.length):
 ch none (srs (remS ix m l)++[(ix,r)])∧nxt (fo none (srs (remS ix m l))) (ix,r)=nxt (fo none (srs l)) (ix,r):=by
 have e1:srs l=srs (l.take m)++srs (l.drop m):=by rw[←srs_append,List.take_append_drop]
 have e2:srs (remS ix m l)=srs (l.take m)++(srs (l.drop m)).filter fun s=>decide (s.1<ix):=by
  unfold remS;rw[srs_append,srs_filter]
 rw[e1]at hc;obtain⟨h1,h2⟩:=(ch_append _ _ _).1 hc;obtain⟨h3,h4⟩:=cut_agr ix (srs (l.drop m)) _ _ (Agr.refl ix (fo none (srs (l.take m)))) h2;rw[←fo_append,←fo_append,←e1,←e2]at h4;cases hA:fo none (srs l)with
 |none=>
  have hl:srs l=[]:=by
   cases hl:srs l with
   |nil=>rfl
   |cons s q=>
    rw[hl]at hA;obtain⟨B,hB⟩:=fo_cons s q none;rw[hB]at hA;cases hA
  have hl0:l=[]:=List.map_eq_nil_iff.1 hl;subst hl0;have e3:remS ix m ([]:List SegN)=[]:=by unfold remS;simp
  rw[e3];exact⟨⟨trivial,trivial⟩,rfl⟩
 |some A=>
  rw[hA]at h4;obtain⟨b1,b2⟩:=hb A hA;obtain⟨h5,h6⟩:=h4.new r b1 b2;refine⟨(ch_append _ _ _).2 ⟨by rw[e2];exact(ch_append _ _ _).2 ⟨h1,h3⟩,h5,trivial⟩,?_⟩;rw[h6];show _=(if ix<A.1 then (ix,r)else (A.1,A.2.take (ix-A.1)++r));rw[if_neg (by omega)]
end Go.Proofs.YthecngkdmnadoaaGreat

namespace Go.Proofs.YthecngkdmnadoaaGreat
open Go.RowKit
set_option maxRecDepth 100000
def plS(x:SegN):Pl:=(x.1,x.2.1)
theorem fr_alive{d:DS}(hd:d.dead=false)(a:Int):(stepE d=0∧(frD d a).secs=fr a d.secs∧(frD d a).dead=false∧(frD d a).room=d.room)∨(stepE d=30∧(frD d a).secs=d.secs∧(frD d a).dead=true∧(frD d a).room=d.room):=by
 have hs:=stepD_room d;rcases step_alive hd with⟨h1,h2⟩|⟨h1,h2⟩
 · left
   unfold frD;rw[if_pos h1];exact⟨h1,rfl,h2,hs.1⟩
 · right
   unfold frD;rw[if_neg (by rw[h1];decide)];exact⟨h1,hs.2,h2,hs.1⟩
theorem sy_alive{d:DS}(hd:d.dead=false)(a:Int):(stepE d=0∧(syD d a).secs=sy a d.secs∧(syD d a).dead=false∧(syD d a).room=d.room)∨(stepE d=30∧(syD d a).secs=d.secs∧(syD d a).dead=true∧(syD d a).room=d.room):=by
 have hs:=stepD_room d;rcases step_alive hd with⟨h1,h2⟩|⟨h1,h2⟩
 · left
   unfold syD;rw[if_pos h1];exact⟨h1,rfl,h2,hs.1⟩
 · right
   unfold syD;rw[if_neg (by rw[h1];decide)];exact⟨h1,hs.2,h2,hs.1⟩
theorem back_main(ix:Nat)(l:List SegN)(cu:CuN)(hch:∀m,ch none (srs (remS ix m l++cuL cu))):∀(m:Nat) (d:DS),m≤l.length→SI d (remS ix m l) cu→d.dead=false →
 (((frsR d (behR ix ((l.map plS).take m))).1=0∧(frsR d (behR ix ((l.map plS).take m))).2.dead=false∧SI (frsR d (behR ix ((l.map plS).take m))).2 (remS ix 0 l) cu)∨((frsR d (behR ix ((l.map plS).take m))).1=30∧(frsR d (behR ix ((l.map plS).take m))).2.dead=true∧∃m',SI (frsR d (behR ix ((l.map plS).take m))).2 (remS ix m' l) cu)) ∧
 (frsR d (behR ix ((l.map plS).take m))).2.room=d.room∧(frsR d (behR ix ((l.map plS).take m))).2.secs.length≤d.secs.length∧∀a',(∀x∈l,a'≠arN x.1)→∀i,curOf (frsR d (behR ix ((l.map plS).take m))).2.secs a' i=curOf d.secs a' i
 |0,d,_,hs,hd=>by
  have e:behR ix ((l.map plS).take 0)=[]:=rfl;rw[e,frsR];exact⟨.inl ⟨rfl,hd,hs⟩,rfl,Nat.le_refl _,fun _ _ _=>rfl⟩
 |m+1,d,hm,hs,hd=>by
  obtain⟨x,hx⟩:∃x,l[m]?=some x:=⟨_,List.getElem?_eq_getElem (by omega)⟩;have hx2:(l.map plS)[m]?=some (plS x):=by rw[List.getElem?_map,hx];rfl
  rw[behR_step ix hx2];by_cases hlo:x.2.1<ix
  · rw[if_neg (by show ¬ix≤x.2.1;omega),List.nil_append]
    rw[rem_low hx hlo]at hs;exact back_main ix l cu hch m d (by omega) hs hd
  · rw[if_pos (by show ix≤x.2.1;omega),List.singleton_append]
    obtain⟨e1,e2⟩:=rem_high hx hlo;have har:((4*(plS x).1+1:Nat):Int)=arN x.1:=rfl;rcases fr_alive hd (arN x.1)with⟨t1,t2,t3,t4⟩|⟨t1,t2,t3,t4⟩
    · have hstep:frsR d (plS x::behR ix ((l.map plS).take m))=frsR (frD d (arN x.1)) (behR ix ((l.map plS).take m)):=by rw[frsR,if_pos (show frE d=0 from t1),har]
      rw[hstep];rw[e1]at hs;have hs':SI (frD d (arN x.1)) (remS ix m l) cu:=by
       rw[e2];refine hs.free t2 ?_;have:=hch m
       rwa [e2]at this
      obtain⟨q1,q2,q3,q4⟩:=back_main ix l cu hch m (frD d (arN x.1)) (by omega) hs' t3;refine⟨q1,q2.trans t4,Nat.le_trans q3 (by rw[t2];exact List.length_filter_le ..),fun a' ha i=>?_⟩;rw[q4 a' ha i,t2,vcur_fr,if_neg (ha x (List.mem_of_getElem? hx))]
    · have hstep:frsR d (plS x::behR ix ((l.map plS).take m))=(30,frD d (arN x.1)):=by
       have t1':frE d=30:=t1;rw[frsR,if_neg (by rw[t1'];decide),har,t1']
      rw[hstep];refine⟨.inr ⟨rfl,t3,m+1,hs.secs t2⟩,t4,by show(frD d (arN x.1)).secs.length≤_;rw[t2];exact Nat.le_refl _,fun a' _ i=>?_⟩;show curOf (frD d (arN x.1)).secs a' i=_;rw[t2]
theorem keepQ_rem(ix:Nat):∀l:List SegN,keepQ ix (l.map plS)=(remS ix 0 l).map plS
 |[]=>rfl
 |x::r=>by
  have ih:=keepQ_rem ix r;rw[rem_zero]at ih ⊢;unfold keepQ at ih ⊢;by_cases h:x.2.1<ix
  · rw[List.map_cons,List.filter_cons_of_pos (by show(!decide (ix≤x.2.1))=true;simpa using h),List.filter_cons_of_pos (by simpa using h),List.map_cons,ih]
  · rw[List.map_cons,List.filter_cons_of_neg (by show ¬(!decide (ix≤x.2.1))=true;simpa using h),List.filter_cons_of_neg (by simpa using h),ih]
theorem fits_none{d:DS}{n:Nat}(hd:d.dead=false)(hr:(d.secs.length:Int)+((n+62)/63:Nat)<d.room):fitsE d 0 n=0:=by
 unfold fitsE;rw[if_neg (by rw[hd];decide),if_neg];unfold moreN;omega
theorem LI.synced{f0:Nat}{g:LG}{segs:List SegN}{cu:CuN}(h:LI f0 g segs cu):
 (stepE g.d=0∧SI (syD g.d g.area) (segs++cuL cu) none∧(syD g.d g.area).dead=false∧(syD g.d g.area).room=g.d.room∧(syD g.d g.area).secs.length=g.d.secs.length)∨(stepE g.d=30∧SI (syD g.d g.area) segs cu∧(syD g.d g.area).dead=true∧(syD g.d g.area).room=g.d.room∧(syD g.d g.area).secs.length=g.d.secs.length):=by
 rcases sy_alive h.live (g.area:Int)with⟨t1,t2,t3,t4⟩|⟨t1,t2,t3,t4⟩
 · left
   refine⟨t1,?_,t3,t4,by rw[t2];exact List.length_map ..⟩;cases hcu:cu with
   |some c=>
    obtain⟨x,kd⟩:=c;subst hcu;obtain⟨c1,c2,_⟩:=h.cur1 x kd rfl;(have e:(g.area:Int)=arN x.1:=by rw[c1];rfl);rw[e]at t2 ⊢;exact(h.si.sync c2 t2).2
   |none=>
    subst hcu;have e0:segs++cuL none=segs:=List.append_nil _;have hs:=h.si;(have hok':SOk (syD g.d g.area).secs:=by rw[t2];exact hs.ok.sync _);have hnum:∀n∈numsN (syD g.d g.area),n∈numsN g.d:=fun n hn=>(nums_of hs.ok hok' t2 (fun s hs=>by
     unfold sy at hs;obtain⟨t,ht,rfl⟩:=List.mem_map.1 hs;exact⟨t,ht,by split<;>rfl⟩) n hn).1
    rw[e0];refine⟨hok',fun n hn=>hs.sub n (hnum n hn),hs.asc,fun y hy=>(hs.dur y hy).keep fun i o ho=>?_,hs.sm,(fun y k e=>by cases e),(fun y k e=>by cases e),hs.chain⟩;rw[t2]at ho;exact(ver_sy ho).2
 · right
   exact⟨t1,h.si.secs t2,t3,t4,by rw[t2]⟩
end Go.Proofs.YthecngkdmnadoaaGreat
