import Derived.Test.YtobjpljdgieklaaGreatDoorJ16
import Derived.Test.YtobjpljdgieklaaGreatDoorJ18
set_option maxRecDepth 100000
namespace Go.Proofs.YtobjpljdgieklaaGreatDoor
section
open Go.RowKit Nums Fm Pk
def zEh(r:Pk.Reach):List Value:=[.int .i64 r.arcs,.int .i64 r.words,.int .i64 r.weight]
theorem zXq(r:Pk.Reach):zG7 3 (zEh r):=⟨rfl,by simp[zEh,Value.oneCell']⟩
theorem rtyRc:RTy 218 216 3 24:=⟨by kernel_rfl,⟨.agg #[.int .i64 0,.int .i64 0,.int .i64 0],by kernel_rfl,rfl⟩,by decide,by decide⟩
namespace Pk
theorem beh_snoc{l:List RArc}{k:Nat}{a:RArc}(h:l[k]?=some a)(known:List Pk.Reach)(r:Pk.Reach):(l.take (k+1)).foldl (zE3 known) r=zE3 known ((l.take k).foldl (zE3 known) r) a:=by
 rw[List.take_add_one,h,List.foldl_append];rfl
structure KnOk(r:Pk.Reach):Prop where
 a0:0≤r.arcs
 a1:r.arcs≤24
 w0:0≤r.words
 w1:r.words≤4096
 g0:0≤r.weight
 g1:r.weight≤1048576
structure RB(k:Nat)(r:Pk.Reach):Prop where
 a0:0≤r.arcs
 a1:r.arcs≤25
 w0:0≤r.words
 w1:r.words≤1+k*4096
 g0:0≤r.weight
 g1:r.weight≤9223372036854775807
end Pk
structure RcBlk(rb:Nat)(r:Pk.Reach)(w:World):Prop where
 blk:w.heap[rb]?=some (.cells #[.int .i64 r.arcs,.int .i64 r.words,.int .i64 r.weight] 218)
theorem RcBlk.facts{rb:Nat}{r:Pk.Reach}{w:World}(h:RcBlk rb r w):w.cell? ⟨rb,0,none⟩=some (.int .i64 r.arcs)∧w.cell? ⟨rb,1,none⟩=some (.int .i64 r.words)∧w.cell? ⟨rb,2,none⟩=some (.int .i64 r.weight)∧∀o,w.frozen? ⟨rb,o,none⟩=false:=⟨by simp[World.cell?,h.blk],by simp[World.cell?,h.blk],by simp[World.cell?,h.blk],fun o=>by simp[World.frozen?,h.blk]⟩
theorem RcBlk.lt{rb:Nat}{r:Pk.Reach}{w:World}(h:RcBlk rb r w):rb<w.heap.size:=(Array.getElem?_eq_some_iff.1 h.blk).1
theorem RcBlk.below{rb:Nat}{r:Pk.Reach}{w w':World}(h:RcBlk rb r w)(hb:Below w.heap.size w w'):RcBlk rb r w':=⟨(hb.block rb h.lt).trans h.blk⟩
theorem zPo{tmps:Array Value}{w:World}{rb:Nat}{a b c:Value}(h2:tmps.getD 4 undef = .pointer (some ⟨rb,0,none⟩))(c0:w.cell? ⟨rb,0,none⟩=some a)(c1:w.cell? ⟨rb,1,none⟩=some b)(c2:w.cell? ⟨rb,2,none⟩=some c):(results Tryz.f143 tmps).run Tryz.prog w = .ok (.agg #[a,b,c]) w:=by
 have h2':tmps[4]?.getD undef = .pointer (some ⟨rb,0,none⟩):=by simpa using h2
 simp[results,Tryz.results143,go_sem,h2',c0,c1,c2]
theorem RcBlk.set0{rb:Nat}{r:Pk.Reach}{w:World}(h:RcBlk rb r w)(x:Int):RcBlk rb ⟨x,r.words,r.weight⟩ (w.setCell ⟨rb,0,none⟩ (.int .i64 x)):=⟨by rw[zAx h.blk];rfl⟩
theorem RcBlk.set1{rb:Nat}{r:Pk.Reach}{w:World}(h:RcBlk rb r w)(x:Int):RcBlk rb ⟨r.arcs,x,r.weight⟩ (w.setCell ⟨rb,1,none⟩ (.int .i64 x)):=⟨by rw[zAx h.blk];rfl⟩
theorem RcBlk.set2{rb:Nat}{r:Pk.Reach}{w:World}(h:RcBlk rb r w)(x:Int):RcBlk rb ⟨r.arcs,r.words,x⟩ (w.setCell ⟨rb,2,none⟩ (.int .i64 x)):=⟨by rw[zAx h.blk];rfl⟩
theorem RcBlk.other{rb:Nat}{r:Pk.Reach}{w w':World}(h:RcBlk rb r w)(e:w'.heap[rb]?=w.heap[rb]?):RcBlk rb r w':=⟨e.trans h.blk⟩
theorem known_at{E:Nat}{w:World}{kd:Option Addr}{kn kc:Nat}{known:List Pk.Reach}(h:GRow E 3 w (.slice kd kn kc) (known.map zEh)){t:Nat}{T:Pk.Reach}(ht:known[t]?=some T):∃g off,kd=some ⟨g,off,none⟩∧g<E∧w.cell? ⟨g,off+t*3,none⟩=some (.int .i64 T.arcs)∧w.cell? ⟨g,off+t*3+1,none⟩=some (.int .i64 T.words)∧w.cell? ⟨g,off+t*3+2,none⟩=some (.int .i64 T.weight):=by
 obtain⟨ad',cap',hv,hc⟩:=h.ex;simp only[Value.slice.injEq]at hv;have hk:=(List.getElem?_eq_some_iff.1 ht).1;obtain⟨g,off,rfl,hg,hx⟩:=hc (by rw[List.length_map];omega);have e:(known.map zEh)[t]?=some (zEh T):=by rw[List.getElem?_map,ht];rfl
 exact⟨g,off,hv.1,hg,hx t 0 _ _ e rfl,hx t 1 _ _ e rfl,hx t 2 _ _ e rfl⟩
set_option maxHeartbeats 2000000 in
theorem zTg(E:Nat)(w:World)(s:RSt)(va vk:Value)(known:List Pk.Reach)(h:ArcsAt E w va s.arcs)(hk:GRow E 3 w vk (known.map zEh))(hE:E≤w.heap.size)
 (hto:∀a∈s.arcs,0≤a.to∧a.to<known.length∧0≤a.out) (hkn:∀r∈known,KnOk r) (hn:s.arcs.length≤1114112) (hso1:s.out≤9223372036854775807) (hso0:0≤s.out):
 Calls Tryz.prog 143 #[.agg #[.bool s.final,.int .i64 s.out,va],vk] w fun e w'=>e = .returned (.agg #[.int .i64 (behR s known).arcs,.int .i64 (behR s known).words,.int .i64 (behR s known).weight])∧Below w.heap.size w w':=by
 obtain⟨ad,cap,rfl⟩:=h.shape;obtain⟨n,hnn⟩:∃n,s.arcs.length=n:=⟨_,rfl⟩;have HN:Hid (s.arcs.length=n):=hnn;have HR:Hid (ArcsAt E w (.slice ad s.arcs.length cap) s.arcs):=h;have hl:=h.len;rw[hnn]at HR hl hn ⊢;clear h hnn;obtain⟨kd,kc,hvk⟩:=hk.shape;rw[List.length_map]at hvk;subst hvk;obtain⟨kn,hkk⟩:∃kn,known.length=kn:=⟨_,rfl⟩;have HKN:Hid (known.length=kn):=hkk;rw[hkk]at hk hto ⊢;have HK:Hid (GRow E 3 w (.slice kd kn kc) (known.map zEh)):=hk;clear hk hkk;go_enter Tryz.func143,Tryz.ntmps143;obtain⟨r0,hr0⟩:∃r0:Pk.Reach,r0=if s.final then ⟨0,1,s.out⟩else ⟨0,0,0⟩:=⟨_,rfl⟩;have HRR:Hid (behR s known=s.arcs.foldl (zE3 known) r0):=by show _=_;rw[hr0];rfl
 have HRB0:Hid (RB 0 r0):=by
  show RB 0 r0;rw[hr0]
  split
  · exact⟨by simp,by simp,by simp,by simp,by simpa using hso0,by simpa using hso1⟩
  · exact⟨by simp,by simp,by simp,by simp,by simp,by simp⟩
 have HKN2:Hid (∀r∈known,KnOk r):=hkn;cases hf:s.final
 rotate_left
 focus
  go_upto_region 4 with fail
  have e0:r0.arcs=0∧r0.words=1∧r0.weight=s.out:=by rw[hr0,hf];exact⟨rfl,rfl,rfl⟩
  clear hr0 hf;have hobj:Obj.cells #[Value.int IntKind.i64 0,Value.int IntKind.i64 1,Value.int IntKind.i64 s.out] 218=Obj.cells #[.int .i64 r0.arcs,.int .i64 r0.words,.int .i64 r0.weight] 218:=by rw[e0.1,e0.2.1,e0.2.2]
  rw[hobj];clear hobj e0
 rotate_left
 focus
  go_upto_region 4 with fail
  have e0:r0.arcs=0∧r0.words=0∧r0.weight=0:=by rw[hr0,hf];exact⟨rfl,rfl,rfl⟩
  clear hr0 hf;have hobj:Obj.cells #[Value.int IntKind.i64 0,Value.int IntKind.i64 0,Value.int IntKind.i64 0] 218=Obj.cells #[.int .i64 r0.arcs,.int .i64 r0.words,.int .i64 r0.weight] 218:=by rw[e0.1,e0.2.1,e0.2.2]
  have hww:∀o,((w.alloc o).alloc (.cells #[.int .i64 0,.int .i64 0,.int .i64 0] 218)).alloc (.cells #[.int .i64 0,.int .i64 0,.int .i64 0] 218)=((w.alloc o).alloc (.cells #[.int .i64 0,.int .i64 0,.int .i64 0] 218)).alloc (.cells #[.int .i64 r0.arcs,.int .i64 r0.words,.int .i64 r0.weight] 218):=fun o=>congrArg _ hobj
  rw[hww];clear hobj hww e0
 all_goals
  obtain⟨rb,hrb⟩:∃rb,rb=w.heap.size+1+1:=⟨_,rfl⟩;obtain⟨qb,hqb⟩:∃qb,qb=w.heap.size+1:=⟨_,rfl⟩;rw[←hrb,←hqb];have HR0:Hid (∀o,RcBlk rb r0 (((w.alloc o).alloc (.cells #[.int .i64 0,.int .i64 0,.int .i64 0] 218)).alloc (.cells #[.int .i64 r0.arcs,.int .i64 r0.words,.int .i64 r0.weight] 218))):=fun o=>by
   refine⟨?_⟩;(have:((w.alloc o).alloc (.cells #[.int .i64 0,.int .i64 0,.int .i64 0] 218)).heap.size=rb:=by rw[hrb];simp);rw[←this];exact zAb _ _
  have HQ0:Hid (∀o,RcBlk qb ⟨0,0,0⟩ (((w.alloc o).alloc (.cells #[.int .i64 0,.int .i64 0,.int .i64 0] 218)).alloc (.cells #[.int .i64 r0.arcs,.int .i64 r0.words,.int .i64 r0.weight] 218))):=fun o=>by
   refine⟨?_⟩;(have:(w.alloc o).heap.size=qb:=by rw[hqb];simp);rw[(MapKept.heap_alloc _ _).2 qb (by rw[hqb];simp),←this];exact zAb _ _
  have HB0:Hid (∀o,Below w.heap.size w (((w.alloc o).alloc (.cells #[.int .i64 0,.int .i64 0,.int .i64 0] 218)).alloc (.cells #[.int .i64 r0.arcs,.int .i64 r0.words,.int .i64 r0.weight] 218))):=fun o=>(((Below.refl _ w).alloc (Nat.le_refl _) _).alloc (by simp) _).alloc (by simp;omega) _
  have HRQ:Hid (w.heap.size≤rb∧w.heap.size≤qb∧rb≠qb):=⟨by omega,by omega,by omega⟩;clear hrb hqb;go_wp2
  go_loopg [7,8,17] n (fun gm _ _ s17 wr=>∃(k:Nat) (r:Pk.Reach),s17 = .int .i64 k∧k≤n∧n-k≤gm∧Hid ((s.arcs.take k).foldl (zE3 known) r0=r)∧Hid (RB k r)∧Hid (RcBlk rb r wr)∧Hid (RcBlk qb ⟨0,0,0⟩ wr)∧Hid (Below w.heap.size w wr))
  case atStart=>exact⟨0,r0,rfl,Nat.zero_le _,by omega,rfl,HRB0,HR0.out _,HQ0.out _,HB0.out _⟩
  case round=>
   obtain⟨k,r,rfl,hk,hgm,HFO,HRB,HRC,HQC,HB⟩:=hrel;by_cases hlt:k<n
   · have hltz:(k:Int)<(n:Int):=by omega
     obtain⟨x,hx⟩:∃x,s.arcs[k]?=some x:=⟨s.arcs[k]'(by have:=HN.out;omega),List.getElem?_eq_getElem _⟩;obtain⟨hx0,hx1,hx2⟩:=hto x (List.mem_of_getElem? hx);obtain⟨t,ht⟩:∃t:Nat,x.to=(t:Int):=⟨x.to.toNat,by omega⟩;(have htk:t<kn:=by omega);(have htz:(t:Int)<(kn:Int):=by omega);obtain⟨T,hT⟩:∃T,known[t]?=some T:=⟨known[t]'(by have:=HKN.out;omega),List.getElem?_eq_getElem _⟩;obtain⟨T0,T1,T2,T3,T4,T5⟩:=hkn T (List.mem_of_getElem? hT);obtain⟨g,off,rfl,hg,c0,c1,c2⟩:=(HR.out.below (HB.out.mono hE)).at hx;obtain⟨kg,koff,rfl,hkg,d0,d1,d2⟩:=known_at (HK.out.below (HB.out.mono hE)) hT;rw[ht]at c2;(have hdA:∀(o:Obj) (j:Nat),(wr.alloc o).cell? ⟨kg,j,none⟩=wr.cell? ⟨kg,j,none⟩:=fun o j=>((Below.refl _ wr).alloc (Nat.le_refl _) o).cell (p:=⟨kg,j,none⟩) (Nat.lt_of_lt_of_le hkg (Nat.le_trans hE HB.out.size)));(have d0':=fun o=>(hdA o _).trans d0);(have d1':=fun o=>(hdA o _).trans d1);(have d2':=fun o=>(hdA o _).trans d2);have HST:Hid ((s.arcs.take (k+1)).foldl (zE3 known) r0=⟨max r.arcs (T.arcs+1),r.words+T.words,max r.weight (min x.out 1048576+T.weight)⟩):=by
      show _=_;rw[beh_snoc hx,HFO.out];unfold zE3;rw[ht,Int.toNat_natCast,List.getD_eq_getElem?_getD,hT];rfl
     obtain⟨b0,b1,b2,b3,b4,b5⟩:=HRB.out;obtain⟨W2,hW2⟩:∃W2,W2=(wr.alloc (.cells #[.int .i32 x.label,.int .i64 x.out,.int .i64 (t:Int)] 126)).alloc (.cells #[.int .i64 T.arcs,.int .i64 T.words,.int .i64 T.weight] 218):=⟨_,rfl⟩;obtain⟨ab,hab⟩:∃ab,ab=wr.heap.size:=⟨_,rfl⟩;obtain⟨tb,htb⟩:∃tb,tb=wr.heap.size+1:=⟨_,rfl⟩;(have hb2:Below wr.heap.size wr W2:=by rw[hW2];exact((Below.refl _ wr).alloc (Nat.le_refl _) _).alloc (by simp) _);have hA2:W2.heap[ab]?=some (.cells #[.int .i32 x.label,.int .i64 x.out,.int .i64 (t:Int)] 126):=by
      rw[hW2,(MapKept.heap_alloc _ _).2 ab (by rw[hab];simp),hab];exact zAb _ _
     have hT2:RcBlk tb T W2:=by
      refine⟨?_⟩;(have:(wr.alloc (.cells #[.int .i32 x.label,.int .i64 x.out,.int .i64 (t:Int)] 126)).heap.size=tb:=by rw[htb];simp);rw[hW2,←this];exact zAb _ _
     have hrl:=HRC.out.lt;have hne:ab≠rb∧tb≠rb:=⟨by omega,by omega⟩;have hr2:=HRC.out.below hb2;(have ha1:W2.cell? ⟨ab,1,none⟩=some (.int .i64 x.out):=by simp[World.cell?,hA2]);(have ha2:W2.cell? ⟨ab,2,none⟩=some (.int .i64 (t:Int)):=by simp[World.cell?,hA2]);obtain⟨r0',r1',r2',rz⟩:=hr2.facts;obtain⟨t0,t1,t2,tz⟩:=hT2.facts;have HW3:Hid (∀v,((W2.setCell ⟨rb,0,none⟩ (.int .i64 v)).cell? ⟨rb,1,none⟩=some (.int .i64 r.words))∧((W2.setCell ⟨rb,0,none⟩ (.int .i64 v)).frozen? ⟨rb,1,none⟩=false)∧((W2.setCell ⟨rb,0,none⟩ (.int .i64 v)).cell? ⟨tb,1,none⟩=some (.int .i64 T.words))):=fun v=>by
      have h3:=hr2.set0 v;exact⟨h3.facts.2.1,h3.facts.2.2.2 1,(hT2.other (zAh _ _ _ _ hne.2)).facts.2.1⟩
     have HW4:Hid (∀v u,(((W2.setCell ⟨rb,0,none⟩ (.int .i64 v)).setCell ⟨rb,1,none⟩ (.int .i64 u)).cell? ⟨rb,2,none⟩=some (.int .i64 r.weight))∧(((W2.setCell ⟨rb,0,none⟩ (.int .i64 v)).setCell ⟨rb,1,none⟩ (.int .i64 u)).frozen? ⟨rb,2,none⟩=false)∧(((W2.setCell ⟨rb,0,none⟩ (.int .i64 v)).setCell ⟨rb,1,none⟩ (.int .i64 u)).cell? ⟨tb,2,none⟩=some (.int .i64 T.weight))∧(((W2.setCell ⟨rb,0,none⟩ (.int .i64 v)).setCell ⟨rb,1,none⟩ (.int .i64 u)).cell? ⟨ab,1,none⟩=some (.int .i64 x.out))):=fun v u=>by
      have h3:=(hr2.set0 v).set1 u;have h4:((W2.setCell ⟨rb,0,none⟩ (.int .i64 v)).setCell ⟨rb,1,none⟩ (.int .i64 u)).heap[ab]?=W2.heap[ab]?:=(zAh _ _ _ _ hne.1).trans (zAh _ _ _ _ hne.1);exact⟨h3.facts.2.2.1,h3.facts.2.2.2 2,((hT2.other (zAh _ _ _ _ hne.2)).other (zAh _ _ _ _ hne.2)).facts.2.2.1,(World.cell?_of_block (a:=⟨ab,1,none⟩) h4).trans ha1⟩
     have HEND:Hid (∀v u z,v=max r.arcs (T.arcs+1)→u=r.words+T.words→z=max r.weight (min x.out 1048576+T.weight)→Hid (RB (k+1) ⟨max r.arcs (T.arcs+1),r.words+T.words,max r.weight (min x.out 1048576+T.weight)⟩)∧Hid (RcBlk rb ⟨max r.arcs (T.arcs+1),r.words+T.words,max r.weight (min x.out 1048576+T.weight)⟩ (((W2.setCell ⟨rb,0,none⟩ (.int .i64 v)).setCell ⟨rb,1,none⟩ (.int .i64 u)).setCell ⟨rb,2,none⟩ (.int .i64 z)))∧Hid (RcBlk qb ⟨0,0,0⟩ (((W2.setCell ⟨rb,0,none⟩ (.int .i64 v)).setCell ⟨rb,1,none⟩ (.int .i64 u)).setCell ⟨rb,2,none⟩ (.int .i64 z)))∧Hid (Below w.heap.size w (((W2.setCell ⟨rb,0,none⟩ (.int .i64 v)).setCell ⟨rb,1,none⟩ (.int .i64 u)).setCell ⟨rb,2,none⟩ (.int .i64 z)))):=fun v u z h1 h2 h3=>by
      have hq2:=HQC.out.below hb2;(have hqr:qb≠rb:=fun e=>HRQ.out.2.2 e.symm);subst h1 h2 h3;refine⟨⟨by simp only;omega,by simp only;omega,by simp only;omega,by simp only;omega,by simp only;omega,by simp only;omega⟩,(((hr2.set0 _).set1 _).set2 _),(((hq2.other (zAh _ _ _ _ hqr)).other (zAh _ _ _ _ hqr)).other (zAh _ _ _ _ hqr)),?_⟩;exact(((HB.out.trans (hb2.mono HB.out.size)).setCell (p:=⟨rb,0,none⟩) HRQ.out.1 _).setCell (p:=⟨rb,1,none⟩) HRQ.out.1 _).setCell (p:=⟨rb,2,none⟩) HRQ.out.1 _
     have HE1:Hid (RB (k+1) ⟨max r.arcs (T.arcs+1),r.words+T.words,max r.weight (min x.out 1048576+T.weight)⟩):=(HEND.out _ _ _ rfl rfl rfl).1;(have HE2:Hid (∀v u z,v=max r.arcs (T.arcs+1)→u=r.words+T.words→z=max r.weight (min x.out 1048576+T.weight)→Hid (RcBlk rb ⟨max r.arcs (T.arcs+1),r.words+T.words,max r.weight (min x.out 1048576+T.weight)⟩ (((W2.setCell ⟨rb,0,none⟩ (.int .i64 v)).setCell ⟨rb,1,none⟩ (.int .i64 u)).setCell ⟨rb,2,none⟩ (.int .i64 z)))):=fun v u z h1 h2 h3=>(HEND.out v u z h1 h2 h3).2.1);(have HE3:Hid (∀v u z,v=max r.arcs (T.arcs+1)→u=r.words+T.words→z=max r.weight (min x.out 1048576+T.weight)→Hid (RcBlk qb ⟨0,0,0⟩ (((W2.setCell ⟨rb,0,none⟩ (.int .i64 v)).setCell ⟨rb,1,none⟩ (.int .i64 u)).setCell ⟨rb,2,none⟩ (.int .i64 z)))):=fun v u z h1 h2 h3=>(HEND.out v u z h1 h2 h3).2.2.1);(have HE4:Hid (∀v u z,v=max r.arcs (T.arcs+1)→u=r.words+T.words→z=max r.weight (min x.out 1048576+T.weight)→Hid (Below w.heap.size w (((W2.setCell ⟨rb,0,none⟩ (.int .i64 v)).setCell ⟨rb,1,none⟩ (.int .i64 u)).setCell ⟨rb,2,none⟩ (.int .i64 z)))):=fun v u z h1 h2 h3=>(HEND.out v u z h1 h2 h3).2.2.2);clear hx hT hb2 hA2 hT2 hr2 hrl hne hdA d0 d1 d2 HEND;(go_upto_region 8 with fail);rw[←htb,←hab,←hW2];clear hab htb hW2 c0 c1 c2 d0' d1' d2';go_upto_region 9 with fail
     all_goals
      (have e0:=fun v=>(HW3.out v).1);(have e1:=fun v=>(HW3.out v).2.1);(have e2:=fun v=>(HW3.out v).2.2);(go_upto_region 10 with fail);clear e0 e1 e2;(have f0:=fun v u=>(HW4.out v u).1);(have f1:=fun v u=>(HW4.out v u).2.1);(have f2:=fun v u=>(HW4.out v u).2.2.1);(have f3:=fun v u=>(HW4.out v u).2.2.2);go_wp2
      all_goals
       go_roundg (n-(k+1));case measure=>omega
       case rel=>
        exact⟨k+1,_,by go_num,by omega,Nat.le_refl _,HST,HE1,HE2.out _ _ _ (by omega) rfl (by omega),HE3.out _ _ _ (by omega) rfl (by omega),HE4.out _ _ _ (by omega) rfl (by omega)⟩
   · have hltz:¬(k:Int)<(n:Int):=by omega
     have hfin:behR s known=r:=by
      rw[HRR.out,←HFO.out,List.take_of_length_le (by have:=HN.out;omega)]
     have HFIN:Hid (behR s known=r):=hfin;clear hfin;obtain⟨r0',r1',r2',rz⟩:=HRC.out.facts;obtain⟨q0,q1,q2,qz⟩:=HQC.out.facts;go_wp2;(try simp only[Exit.inBlock,Exit.then]);have hq:=((HQC.out.set0 r.arcs).set1 r.words).set2 r.weight;refine bodyPost_ret (zPo rfl hq.facts.1 hq.facts.2.1 hq.facts.2.2.1) rfl ?_;exact⟨by rw[HFIN.out],((HB.out.setCell (p:=⟨qb,0,none⟩) HRQ.out.2.1 _).setCell (p:=⟨qb,1,none⟩) HRQ.out.2.1 _).setCell (p:=⟨qb,2,none⟩) HRQ.out.2.1 _⟩
end
section
namespace Mq
open Go.RowKit Go.Shelf Go.Lib Go.Sort Pm
set_option maxRecDepth 1000000
attribute [local go_sem ↓] exec_load_P exec_store_P
set_option maxHeartbeats 8000000 in
theorem symMerge_one(blk off n cap:Nat)(w0 w:World)(R:RowP w0 blk off n)(A Q B:List Pr)(x:Pr)(S:SWK encP 3 w0 blk off (A++x::(Q++B)).toArray w)(hn:(A++x::(Q++B)).length=n)(hQ:Up zAa Q)(a m b:Nat)(ha:a=A.length)(hm:m=a+1)(hb:b=m+Q.length):
 Calls Tryz.prog 159 #[.slice (some ⟨blk,off,none⟩) n cap,.int .i64 a,.int .i64 m,.int .i64 b,.func (.func 81) #[] #[]] w fun e w'=>e = .returned (.tuple #[])∧∃X,Stably zAa (x::Q) X∧SWK encP 3 w0 blk off (A++(X++B)).toArray w':=by
 have hbig:=R.big;have mixed:=zAo;have eg:∀args w,(callFunc 81 args).run Tryz.prog w = .ok (.enter 81 args) w:=enters_of Tryz.func81 (by kernel_rfl) rfl;have hn':A.length+(Q.length+B.length+1)=n:=by simpa using hn
 have hbn:b≤n:=by omega
 have han:a<n:=by omega
 have hmb:m≤b:=by omega
 have ema:(m:Int)-(a:Int)=1:=by omega
 have hxa:(A++x::(Q++B)).toArray[a]! = x:=Pm.get_at _ A (Q++B) x a rfl ha;have HPT:Hid (∀i,m≤i→i≤b→∃L1 L2,Q=L1++L2∧m+L1.length=i∧(0<L1.length→∃a' u,L1=a'++[u]∧(A++x::(Q++B)).toArray[i-1]! = u)∧(0<L2.length→∃u b',L2=u::b'∧(A++x::(Q++B)).toArray[i]! = u)):=by
  show ∀i,_;intro i h1 h2;obtain⟨L1,L2,g1,g2,g3,g4⟩:=part_at (A++[x]) Q B i (by simp;omega) (by simp;omega);rw[show A++[x]++(Q++B)=A++x::(Q++B)by simp]at g3 g4;exact⟨L1,L2,g1,by simp at g2;omega,g3,g4⟩
 have S0:Aside (SWK encP 3 w0 blk off (A++x::(Q++B)).toArray w):=S;have HN:Hid ((A++x::(Q++B)).length=n):=hn;have HQ:Hid (Up zAa Q):=hQ;have HA:Hid (a=A.length):=ha;have HM:Hid (m=a+1):=hm;have HB:Hid (b=m+Q.length):=hb;have HXA:Hid ((A++x::(Q++B)).toArray[a]! = x):=hxa;have HL:Hid ((A++x::(Q++B)).toArray.size=n):=by show _=_;simpa using hn
 obtain⟨d,hd⟩:∃d:Array Pr,(A++x::(Q++B)).toArray=d:=⟨_,rfl⟩;have HD:Hid ((A++x::(Q++B)).toArray=d):=hd;rw[hd]at S0 HXA HL HPT;have hma1:m≤n:=by omega
 clear S hn hn' hQ ha hm hb hxa hd;go_enter Tryz.func159,Tryz.ntmps159;go_wp2
 go_loopg [10,11] (b-m) (fun g s10 s11 wr=>∃(i j:Nat),s10 = .int .i64 i∧s11 = .int .i64 j∧m≤i∧i≤j∧j≤b∧j-i≤g∧Aside (SWK encP 3 w0 blk off d wr)∧Hid ((i=m∨zAa d[i-1]!.1 x.1=true)∧(j=b∨zAa d[j]!.1 x.1=false)))
 case atStart=>exact⟨m,b,rfl,rfl,Nat.le_refl _,hmb,Nat.le_refl _,Nat.le_refl _,S0,.inl rfl,.inl rfl⟩
 case round=>
  clear S0;obtain⟨i,j,rfl,rfl,hmi,hij,hjb,hg,S1,H⟩:=hrel;by_cases hlt:i<j
  · have hltz:(i:Int)<(j:Int):=by omega
    obtain⟨h,hh⟩:∃h,h=(i+j)/2:=⟨_,rfl⟩;(have ehz:((i:Int)+(j:Int))/2=(h:Int):=by omega);(have hih:i≤h:=by omega);(have hhj:h<j:=by omega);have HH:Hid (h=(i+j)/2):=hh;clear hh;(have rh:IntKind.i64.wrap (h:Int)=(h:Int):=by rw[IntKind.wrap_i64];omega);(have ph:(0:Int)≤(h:Int):=by omega);(have bh:(h:Int)<(n:Int):=by omega);(have eh:(h:Int).toNat=h:=by omega);(have pa:(0:Int)≤(a:Int):=by omega);(have ba:(a:Int)<(n:Int):=by omega);(have ea:(a:Int).toNat=a:=by omega);have lh:=R.ld S1.out HL.out h (by omega);have la:=R.ld S1.out HL.out a (by omega);rw[HXA.out]at la;obtain⟨y,hy⟩:∃y,d[h]! = y:=⟨_,rfl⟩;rw[hy]at lh;have HY:Hid (d[h]! = y):=hy;clear hy;have hcm:=RowP.cmp S1.out y x;cases hv:zAa y.1 x.1
    · have hv1:¬cfP y x<0:=not_lt_of_cf hv
      have hv2:decide (cfP y x<0)=false:=decide_eq_false hv1;have HV:Hid (zAa y.1 x.1=false):=hv;clear hv;go_wp2_with fail
      go_quiet_grown (first|(go_at_fn 81;refine Calls.grown_of (hcm _ _))|(go_at_call 81;refine Calls.grown_of (hcm _ _)))
      have S2:Aside (SWK encP 3 w0 blk off d (grow (wr.drewN nq) osq)):=S1.out.grown nq osq;clear lh la hcm S1;generalize grow (wr.drewN nq) osq=w2 at S2 ⊢;go_wp2;go_roundg (h-i);(case measure=>omega);case rel=>exact⟨i,h,rfl,rfl,hmi,hih,by omega,Nat.le_refl _,S2,H.out.1,.inr (by rw[HY.out];exact HV.out)⟩
    · have hv1:cfP y x<0:=lt_of_cf hv
      have hv2:decide (cfP y x<0)=true:=decide_eq_true hv1;have HV:Hid (zAa y.1 x.1=true):=hv;clear hv;go_wp2_with fail
      go_quiet_grown (first|(go_at_fn 81;refine Calls.grown_of (hcm _ _))|(go_at_call 81;refine Calls.grown_of (hcm _ _)))
      have S2:Aside (SWK encP 3 w0 blk off d (grow (wr.drewN nq) osq)):=S1.out.grown nq osq;clear lh la hcm S1;generalize grow (wr.drewN nq) osq=w2 at S2 ⊢;go_wp2;go_roundg (j-(h+1));(case measure=>omega);case rel=>exact⟨h+1,j,by go_num,rfl,by omega,by omega,hjb,Nat.le_refl _,S2,.inr (by rw[Nat.add_sub_cancel,HY.out];exact HV.out),H.out.2⟩
  · have hltz:¬(i:Int)<(j:Int):=by omega
    (obtain rfl:i=j:=by omega);obtain⟨Q1,Q2,hq,hl1,hq1,hq2⟩:=HPT.out i hmi hjb;have HQ1:Hid (∀v∈Q1,zAa v.1 x.1=true):=by
     show ∀v∈Q1,_;rcases Nat.eq_zero_or_pos Q1.length with h0|h0
     · rw[List.eq_nil_of_length_eq_zero h0];intro v hv;cases hv
     · obtain⟨a',u,e1,e2⟩:=hq1 h0
       rcases H.out.1 with h1|h1
       · omega
       · rw[e1]
         rw[e2]at h1;have hup:=HQ.out;rw[hq,e1]at hup;exact all_lt (up_left hup) h1
    have HQ2:Hid (∀v∈Q2,zAa v.1 x.1=false):=by
     show ∀v∈Q2,_;rcases Nat.eq_zero_or_pos Q2.length with h0|h0
     · rw[List.eq_nil_of_length_eq_zero h0];intro v hv;cases hv
     · obtain⟨u,b',e1,e2⟩:=hq2 h0
       rcases H.out.2 with h1|h1
       · exfalso
         have hm2:=HB.out;rw[hq,List.length_append]at hm2;omega
       · rw[e1]
         rw[e2]at h1;have hup:=HQ.out;rw[hq,e1]at hup;exact all_ge (up_right hup) h1
    have HQQ:Hid (Q=Q1++Q2):=hq;have S1':Aside (SWK encP 3 w0 blk off (A++([]++x::(Q1++(Q2++B)))).toArray wr):=by
     have h:=S1.out;rw[←HD.out,hq,List.append_assoc Q1]at h;exact h
    have HL1:Hid (m+Q1.length=i):=hl1;(have hai:a+1≤i:=by have:=HM.out;omega);clear S1 hq hl1 hq1 hq2 H HPT HXA;go_wp2
    go_loopg [13] Q1.length (fun g s13 wr=>∃(k:Nat) (U V:List Pr),s13 = .int .i64 k∧a≤k∧k+1≤i∧i-k≤g+1∧Aside (SWK encP 3 w0 blk off (A++(U++x::(V++(Q2++B)))).toArray wr)∧Hid (Q1=U++V∧k=a+U.length))
    case atStart=>exact⟨a,[],Q1,rfl,Nat.le_refl _,hai,by have:=HL1.out;have:=HM.out;omega,S1',rfl,rfl⟩
    case round=>
     clear S1';obtain⟨k,U,V,rfl,hak,hki,hg2,S1,H2⟩:=hrel;(have ei1:(i:Int)-1=((i-1:Nat):Int):=by omega);(have hiz:IntKind.i64.wrap ((i-1:Nat):Int)=((i-1:Nat):Int):=by rw[IntKind.wrap_i64];omega);by_cases hk:k<i-1
     · have hkz:(k:Int)<((i-1:Nat):Int):=by omega
       have hVn:V≠[]:=by
        intro e;have h1:=H2.out.1;have h2:=HL1.out;have h3:=H2.out.2;have h4:=HM.out;rw[h1,e]at h2;simp at h2;omega
       obtain⟨v,V',hV⟩:∃v V',V=v::V':=by
        cases V with
        |nil=>exact absurd rfl hVn
        |cons v V'=>exact⟨v,V',rfl⟩
       have HV:Hid (V=v::V'):=hV;clear hVn hV;have hs:(A++(U++x::(V++(Q2++B)))).toArray.size=n:=by
        have h1:=HN.out;rw[HQQ.out,H2.out.1]at h1;simp at h1 ⊢;omega
       (have ek:(k:Int).toNat=k:=by omega);(have pk:(0:Int)≤(k:Int):=by omega);(have bk:(k:Int)<(n:Int):=by omega);(have rk:IntKind.i64.wrap (k:Int)=(k:Int):=by rw[IntKind.wrap_i64];omega);(have ek1:((k:Int)+1).toNat=k+1:=by omega);(have pk1:(0:Int)≤(k:Int)+1:=by omega);(have bk1:(k:Int)+1<(n:Int):=by omega);(have rk1:IntKind.i64.wrap ((k:Int)+1)=(k:Int)+1:=by rw[IntKind.wrap_i64];omega);have S2:=R.swapped S1.out hs k (k+1) (by omega) (by omega);have lk:=R.ld1 S1.out hs k (by omega);have lk1:=R.ld1 S1.out hs (k+1) (by omega);have sk:=R.st1 S1.out hs k (by omega) (A++(U++x::(V++(Q2++B)))).toArray[k+1]!;have sk1:=R.st2 S1.out hs k (k+1) (by omega) (by omega) (A++(U++x::(V++(Q2++B)))).toArray[k+1]! (A++(U++x::(V++(Q2++B)))).toArray[k]!;(have el:A++(U++x::(V++(Q2++B)))=(A++U)++x::([]++v::(V'++(Q2++B))):=by rw[HV.out];simp);have HSW:Hid (swp (A++(U++x::(V++(Q2++B)))).toArray k (k+1)=(A++((U++[v])++x::(V'++(Q2++B)))).toArray):=by
        show _=_;rw[zP3 _ _ _ _ _ _ k (k+1) el (by have:=H2.out.2;have:=HA.out;simp;omega) (by have:=H2.out.2;have:=HA.out;simp;omega)];simp
       rw[HSW.out]at S2;have HS2:Aside _:=S2;clear S2 hs el;generalize (A++(U++x::(V++(Q2++B)))).toArray[k+1]! = y1 at HS2 lk1 sk sk1;generalize (A++(U++x::(V++(Q2++B)))).toArray[k]! = y0 at HS2 lk sk1;clear S1;go_wp2_with fail
       go_big_region_o
       clear lk lk1 sk sk1;generalize (wr.drew.setCells blk (off+k*3) (encP y1)).setCells blk (off+(k+1)*3) (encP y0)=w2 at HS2 ⊢;go_wp2;go_roundg (i-(k+1)-1);(case measure=>omega);case rel=>exact⟨k+1,U++[v],V',by go_num,by omega,by omega,by omega,HS2,by rw[H2.out.1,HV.out];simp,by have:=H2.out.2;simp;omega⟩
     · have hkz:¬(k:Int)<((i-1:Nat):Int):=by omega
       go_wp2
       (try simp only[Exit.inBlock,Exit.then]);refine bodyPost_ret (results_none rfl _ _ _) rfl ?_
       refine⟨rfl,Q1++x::Q2,?_,?_⟩
       · have:=insert_left lessB_sto (x:=x) (a:=Q1) (b:=Q2) (by rw[←HQQ.out];exact HQ.out) HQ1.out HQ2.out
         rw[HQQ.out];exact this
       · have h1:=H2.out.1
         have h2:=HL1.out;have h3:=H2.out.2;have h4:=HM.out;have hV:V=[]:=List.eq_nil_of_length_eq_zero (by rw[h1]at h2;simp at h2;omega);have h:=S1.out;rw[hV]at h h1;simp at h1;rw[h1];simpa using h
end Mq
end
