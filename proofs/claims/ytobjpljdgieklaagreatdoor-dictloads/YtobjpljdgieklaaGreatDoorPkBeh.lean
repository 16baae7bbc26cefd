import Derived.Test.YtobjpljdgieklaaGreatDoorJ26
namespace Go.Proofs.YtobjpljdgieklaaGreatDoor
open Go.RowKit Nums Fm Pk
set_option maxRecDepth 100000
def zEd(r:Pk.Reach):List Value:=[.int .i64 r.arcs,.int .i64 r.words,.int .i64 r.weight]
theorem zW4(r:Pk.Reach):zGr 3 (zEd r):=⟨rfl,by simp[zEd,Value.oneCell']⟩
theorem rtyRc:RTy 218 216 3 24:=⟨by kernel_rfl,⟨.agg #[.int .i64 0,.int .i64 0,.int .i64 0],by kernel_rfl,rfl⟩,by decide,by decide⟩
namespace Pk
theorem beh_snoc{l:List RArc}{k:Nat}{a:RArc}(h:l[k]?=some a)(known:List Pk.Reach)(r:Pk.Reach):(l.take (k+1)).foldl (zE0 known) r=zE0 known ((l.take k).foldl (zE0 known) r) a:=by
 rw[List.take_add_one,h,List.foldl_append];rfl
structure KnOk(r:Pk.Reach):Prop where
 a0:0≤r.arcs
 a1:r.arcs≤24
 w0:0≤r.words
 w1:r.words≤4096
 g0:0≤r.weight
 g1:r.weight≤1048576
structure RB(k:Nat)(r:Pk.Reach):Prop where
 a0:0≤r.arcs
 a1:r.arcs≤25
 w0:0≤r.words
 w1:r.words≤1+k*4096
 g0:0≤r.weight
 g1:r.weight≤9223372036854775807
end Pk
structure RcBlk(rb:Nat)(r:Pk.Reach)(w:World):Prop where
 blk:w.heap[rb]?=some (.cells #[.int .i64 r.arcs,.int .i64 r.words,.int .i64 r.weight] 218)
theorem RcBlk.facts{rb:Nat}{r:Pk.Reach}{w:World}(h:RcBlk rb r w):w.cell? ⟨rb,0,none⟩=some (.int .i64 r.arcs)∧w.cell? ⟨rb,1,none⟩=some (.int .i64 r.words)∧w.cell? ⟨rb,2,none⟩=some (.int .i64 r.weight)∧∀o,w.frozen? ⟨rb,o,none⟩=false:=⟨by simp[World.cell?,h.blk],by simp[World.cell?,h.blk],by simp[World.cell?,h.blk],fun o=>by simp[World.frozen?,h.blk]⟩
theorem RcBlk.lt{rb:Nat}{r:Pk.Reach}{w:World}(h:RcBlk rb r w):rb<w.heap.size:=(Array.getElem?_eq_some_iff.1 h.blk).1
theorem RcBlk.below{rb:Nat}{r:Pk.Reach}{w w':World}(h:RcBlk rb r w)(hb:Below w.heap.size w w'):RcBlk rb r w':=⟨(hb.block rb h.lt).trans h.blk⟩
theorem zPd{tmps:Array Value}{w:World}{rb:Nat}{a b c:Value}(h2:tmps.getD 4 undef = .pointer (some ⟨rb,0,none⟩))(c0:w.cell? ⟨rb,0,none⟩=some a)(c1:w.cell? ⟨rb,1,none⟩=some b)(c2:w.cell? ⟨rb,2,none⟩=some c):(results Tryz.f143 tmps).run Tryz.prog w = .ok (.agg #[a,b,c]) w:=by
 have h2':tmps[4]?.getD undef = .pointer (some ⟨rb,0,none⟩):=by simpa using h2
 simp[results,Tryz.results143,go_sem,h2',c0,c1,c2]
theorem RcBlk.set0{rb:Nat}{r:Pk.Reach}{w:World}(h:RcBlk rb r w)(x:Int):RcBlk rb ⟨x,r.words,r.weight⟩ (w.setCell ⟨rb,0,none⟩ (.int .i64 x)):=⟨by rw[zAu h.blk];rfl⟩
theorem RcBlk.set1{rb:Nat}{r:Pk.Reach}{w:World}(h:RcBlk rb r w)(x:Int):RcBlk rb ⟨r.arcs,x,r.weight⟩ (w.setCell ⟨rb,1,none⟩ (.int .i64 x)):=⟨by rw[zAu h.blk];rfl⟩
theorem RcBlk.set2{rb:Nat}{r:Pk.Reach}{w:World}(h:RcBlk rb r w)(x:Int):RcBlk rb ⟨r.arcs,r.words,x⟩ (w.setCell ⟨rb,2,none⟩ (.int .i64 x)):=⟨by rw[zAu h.blk];rfl⟩
theorem RcBlk.other{rb:Nat}{r:Pk.Reach}{w w':World}(h:RcBlk rb r w)(e:w'.heap[rb]?=w.heap[rb]?):RcBlk rb r w':=⟨e.trans h.blk⟩
theorem known_at{E:Nat}{w:World}{kd:Option Addr}{kn kc:Nat}{known:List Pk.Reach}(h:GRow E 3 w (.slice kd kn kc) (known.map zEd)){t:Nat}{T:Pk.Reach}(ht:known[t]?=some T):∃g off,kd=some ⟨g,off,none⟩∧g<E∧w.cell? ⟨g,off+t*3,none⟩=some (.int .i64 T.arcs)∧w.cell? ⟨g,off+t*3+1,none⟩=some (.int .i64 T.words)∧w.cell? ⟨g,off+t*3+2,none⟩=some (.int .i64 T.weight):=by
 obtain⟨ad',cap',hv,hc⟩:=h.ex;simp only[Value.slice.injEq]at hv;have hk:=(List.getElem?_eq_some_iff.1 ht).1;obtain⟨g,off,rfl,hg,hx⟩:=hc (by rw[List.length_map];omega);have e:(known.map zEd)[t]?=some (zEd T):=by rw[List.getElem?_map,ht];rfl
 exact⟨g,off,hv.1,hg,hx t 0 _ _ e rfl,hx t 1 _ _ e rfl,hx t 2 _ _ e rfl⟩
set_option maxHeartbeats 2000000 in
theorem zS2(E:Nat)(w:World)(s:RSt)(va vk:Value)(known:List Pk.Reach)(h:ArcsAt E w va s.arcs)(hk:GRow E 3 w vk (known.map zEd))(hE:E≤w.heap.size)
 (hto:∀a∈s.arcs,0≤a.to∧a.to<known.length∧0≤a.out) (hkn:∀r∈known,KnOk r) (hn:s.arcs.length≤1114112) (hso1:s.out≤9223372036854775807) (hso0:0≤s.out):
 Calls Tryz.prog 143 #[.agg #[.bool s.final,.int .i64 s.out,va],vk] w fun e w'=>e = .returned (.agg #[.int .i64 (behR s known).arcs,.int .i64 (behR s known).words,.int .i64 (behR s known).weight])∧Below w.heap.size w w':=by
 obtain⟨ad,cap,rfl⟩:=h.shape;obtain⟨n,hnn⟩:∃n,s.arcs.length=n:=⟨_,rfl⟩;have HN:Hid (s.arcs.length=n):=hnn;have HR:Hid (ArcsAt E w (.slice ad s.arcs.length cap) s.arcs):=h;have hl:=h.len;rw[hnn]at HR hl hn ⊢;clear h hnn;obtain⟨kd,kc,hvk⟩:=hk.shape;rw[List.length_map]at hvk;subst hvk;obtain⟨kn,hkk⟩:∃kn,known.length=kn:=⟨_,rfl⟩;have HKN:Hid (known.length=kn):=hkk;rw[hkk]at hk hto ⊢;have HK:Hid (GRow E 3 w (.slice kd kn kc) (known.map zEd)):=hk;clear hk hkk;go_enter Tryz.func143,Tryz.ntmps143;obtain⟨r0,hr0⟩:∃r0:Pk.Reach,r0=if s.final then ⟨0,1,s.out⟩else ⟨0,0,0⟩:=⟨_,rfl⟩;have HRR:Hid (behR s known=s.arcs.foldl (zE0 known) r0):=by show _=_;rw[hr0];rfl
 have HRB0:Hid (RB 0 r0):=by
  show RB 0 r0;rw[hr0]
  split
  · exact⟨by simp,by simp,by simp,by simp,by simpa using hso0,by simpa using hso1⟩
  · exact⟨by simp,by simp,by simp,by simp,by simp,by simp⟩
 have HKN2:Hid (∀r∈known,KnOk r):=hkn;cases hf:s.final
 rotate_left
 focus
  go_upto_region 4 with fail
  have e0:r0.arcs=0∧r0.words=1∧r0.weight=s.out:=by rw[hr0,hf];exact⟨rfl,rfl,rfl⟩
  clear hr0 hf;have hobj:Obj.cells #[Value.int IntKind.i64 0,Value.int IntKind.i64 1,Value.int IntKind.i64 s.out] 218=Obj.cells #[.int .i64 r0.arcs,.int .i64 r0.words,.int .i64 r0.weight] 218:=by rw[e0.1,e0.2.1,e0.2.2]
  rw[hobj];clear hobj e0
 rotate_left
 focus
  go_upto_region 4 with fail
  have e0:r0.arcs=0∧r0.words=0∧r0.weight=0:=by rw[hr0,hf];exact⟨rfl,rfl,rfl⟩
  clear hr0 hf;have hobj:Obj.cells #[Value.int IntKind.i64 0,Value.int IntKind.i64 0,Value.int IntKind.i64 0] 218=Obj.cells #[.int .i64 r0.arcs,.int .i64 r0.words,.int .i64 r0.weight] 218:=by rw[e0.1,e0.2.1,e0.2.2]
  have hww:∀o,((w.alloc o).alloc (.cells #[.int .i64 0,.int .i64 0,.int .i64 0] 218)).alloc (.cells #[.int .i64 0,.int .i64 0,.int .i64 0] 218)=((w.alloc o).alloc (.cells #[.int .i64 0,.int .i64 0,.int .i64 0] 218)).alloc (.cells #[.int .i64 r0.arcs,.int .i64 r0.words,.int .i64 r0.weight] 218):=fun o=>congrArg _ hobj
  rw[hww];clear hobj hww e0
 all_goals
  obtain⟨rb,hrb⟩:∃rb,rb=w.heap.size+1+1:=⟨_,rfl⟩;obtain⟨qb,hqb⟩:∃qb,qb=w.heap.size+1:=⟨_,rfl⟩;rw[←hrb,←hqb];have HR0:Hid (∀o,RcBlk rb r0 (((w.alloc o).alloc (.cells #[.int .i64 0,.int .i64 0,.int .i64 0] 218)).alloc (.cells #[.int .i64 r0.arcs,.int .i64 r0.words,.int .i64 r0.weight] 218))):=fun o=>by
   refine⟨?_⟩;(have:((w.alloc o).alloc (.cells #[.int .i64 0,.int .i64 0,.int .i64 0] 218)).heap.size=rb:=by rw[hrb];simp);rw[←this];exact zAb _ _
  have HQ0:Hid (∀o,RcBlk qb ⟨0,0,0⟩ (((w.alloc o).alloc (.cells #[.int .i64 0,.int .i64 0,.int .i64 0] 218)).alloc (.cells #[.int .i64 r0.arcs,.int .i64 r0.words,.int .i64 r0.weight] 218))):=fun o=>by
   refine⟨?_⟩;(have:(w.alloc o).heap.size=qb:=by rw[hqb];simp);rw[(MapKept.heap_alloc _ _).2 qb (by rw[hqb];simp),←this];exact zAb _ _
  have HB0:Hid (∀o,Below w.heap.size w (((w.alloc o).alloc (.cells #[.int .i64 0,.int .i64 0,.int .i64 0] 218)).alloc (.cells #[.int .i64 r0.arcs,.int .i64 r0.words,.int .i64 r0.weight] 218))):=fun o=>(((Below.refl _ w).alloc (Nat.le_refl _) _).alloc (by simp) _).alloc (by simp;omega) _
  have HRQ:Hid (w.heap.size≤rb∧w.heap.size≤qb∧rb≠qb):=⟨by omega,by omega,by omega⟩;clear hrb hqb;go_wp2
  go_loopg [7,8,17] n (fun gm _ _ s17 wr=>∃(k:Nat) (r:Pk.Reach),s17 = .int .i64 k∧k≤n∧n-k≤gm∧Hid ((s.arcs.take k).foldl (zE0 known) r0=r)∧Hid (RB k r)∧Hid (RcBlk rb r wr)∧Hid (RcBlk qb ⟨0,0,0⟩ wr)∧Hid (Below w.heap.size w wr))
  case atStart=>exact⟨0,r0,rfl,Nat.zero_le _,by omega,rfl,HRB0,HR0.out _,HQ0.out _,HB0.out _⟩
  case round=>
   obtain⟨k,r,rfl,hk,hgm,HFO,HRB,HRC,HQC,HB⟩:=hrel;by_cases hlt:k<n
   · have hltz:(k:Int)<(n:Int):=by omega
     obtain⟨x,hx⟩:∃x,s.arcs[k]?=some x:=⟨s.arcs[k]'(by have:=HN.out;omega),List.getElem?_eq_getElem _⟩;obtain⟨hx0,hx1,hx2⟩:=hto x (List.mem_of_getElem? hx);obtain⟨t,ht⟩:∃t:Nat,x.to=(t:Int):=⟨x.to.toNat,by omega⟩;(have htk:t<kn:=by omega);(have htz:(t:Int)<(kn:Int):=by omega);obtain⟨T,hT⟩:∃T,known[t]?=some T:=⟨known[t]'(by have:=HKN.out;omega),List.getElem?_eq_getElem _⟩;obtain⟨T0,T1,T2,T3,T4,T5⟩:=hkn T (List.mem_of_getElem? hT);obtain⟨g,off,rfl,hg,c0,c1,c2⟩:=(HR.out.below (HB.out.mono hE)).at hx;obtain⟨kg,koff,rfl,hkg,d0,d1,d2⟩:=known_at (HK.out.below (HB.out.mono hE)) hT;rw[ht]at c2;(have hdA:∀(o:Obj) (j:Nat),(wr.alloc o).cell? ⟨kg,j,none⟩=wr.cell? ⟨kg,j,none⟩:=fun o j=>((Below.refl _ wr).alloc (Nat.le_refl _) o).cell (p:=⟨kg,j,none⟩) (Nat.lt_of_lt_of_le hkg (Nat.le_trans hE HB.out.size)));(have d0':=fun o=>(hdA o _).trans d0);(have d1':=fun o=>(hdA o _).trans d1);(have d2':=fun o=>(hdA o _).trans d2);have HST:Hid ((s.arcs.take (k+1)).foldl (zE0 known) r0=⟨max r.arcs (T.arcs+1),r.words+T.words,max r.weight (min x.out 1048576+T.weight)⟩):=by
      show _=_;rw[beh_snoc hx,HFO.out];unfold zE0;rw[ht,Int.toNat_natCast,List.getD_eq_getElem?_getD,hT];rfl
     obtain⟨b0,b1,b2,b3,b4,b5⟩:=HRB.out;obtain⟨W2,hW2⟩:∃W2,W2=(wr.alloc (.cells #[.int .i32 x.label,.int .i64 x.out,.int .i64 (t:Int)] 126)).alloc (.cells #[.int .i64 T.arcs,.int .i64 T.words,.int .i64 T.weight] 218):=⟨_,rfl⟩;obtain⟨ab,hab⟩:∃ab,ab=wr.heap.size:=⟨_,rfl⟩;obtain⟨tb,htb⟩:∃tb,tb=wr.heap.size+1:=⟨_,rfl⟩;(have hb2:Below wr.heap.size wr W2:=by rw[hW2];exact((Below.refl _ wr).alloc (Nat.le_refl _) _).alloc (by simp) _);have hA2:W2.heap[ab]?=some (.cells #[.int .i32 x.label,.int .i64 x.out,.int .i64 (t:Int)] 126):=by
      rw[hW2,(MapKept.heap_alloc _ _).2 ab (by rw[hab];simp),hab];exact zAb _ _
     have hT2:RcBlk tb T W2:=by
      refine⟨?_⟩;(have:(wr.alloc (.cells #[.int .i32 x.label,.int .i64 x.out,.int .i64 (t:Int)] 126)).heap.size=tb:=by rw[htb];simp);rw[hW2,←this];exact zAb _ _
     have hrl:=HRC.out.lt;have hne:ab≠rb∧tb≠rb:=⟨by omega,by omega⟩;have hr2:=HRC.out.below hb2;(have ha1:W2.cell? ⟨ab,1,none⟩=some (.int .i64 x.out):=by simp[World.cell?,hA2]);(have ha2:W2.cell? ⟨ab,2,none⟩=some (.int .i64 (t:Int)):=by simp[World.cell?,hA2]);obtain⟨r0',r1',r2',rz⟩:=hr2.facts;obtain⟨t0,t1,t2,tz⟩:=hT2.facts;have HW3:Hid (∀v,((W2.setCell ⟨rb,0,none⟩ (.int .i64 v)).cell? ⟨rb,1,none⟩=some (.int .i64 r.words))∧((W2.setCell ⟨rb,0,none⟩ (.int .i64 v)).frozen? ⟨rb,1,none⟩=false)∧((W2.setCell ⟨rb,0,none⟩ (.int .i64 v)).cell? ⟨tb,1,none⟩=some (.int .i64 T.words))):=fun v=>by
      have h3:=hr2.set0 v;exact⟨h3.facts.2.1,h3.facts.2.2.2 1,(hT2.other (zAc _ _ _ _ hne.2)).facts.2.1⟩
     have HW4:Hid (∀v u,(((W2.setCell ⟨rb,0,none⟩ (.int .i64 v)).setCell ⟨rb,1,none⟩ (.int .i64 u)).cell? ⟨rb,2,none⟩=some (.int .i64 r.weight))∧(((W2.setCell ⟨rb,0,none⟩ (.int .i64 v)).setCell ⟨rb,1,none⟩ (.int .i64 u)).frozen? ⟨rb,2,none⟩=false)∧(((W2.setCell ⟨rb,0,none⟩ (.int .i64 v)).setCell ⟨rb,1,none⟩ (.int .i64 u)).cell? ⟨tb,2,none⟩=some (.int .i64 T.weight))∧(((W2.setCell ⟨rb,0,none⟩ (.int .i64 v)).setCell ⟨rb,1,none⟩ (.int .i64 u)).cell? ⟨ab,1,none⟩=some (.int .i64 x.out))):=fun v u=>by
      have h3:=(hr2.set0 v).set1 u;have h4:((W2.setCell ⟨rb,0,none⟩ (.int .i64 v)).setCell ⟨rb,1,none⟩ (.int .i64 u)).heap[ab]?=W2.heap[ab]?:=(zAc _ _ _ _ hne.1).trans (zAc _ _ _ _ hne.1);exact⟨h3.facts.2.2.1,h3.facts.2.2.2 2,((hT2.other (zAc _ _ _ _ hne.2)).other (zAc _ _ _ _ hne.2)).facts.2.2.1,(World.cell?_of_block (a:=⟨ab,1,none⟩) h4).trans ha1⟩
     have HEND:Hid (∀v u z,v=max r.arcs (T.arcs+1)→u=r.words+T.words→z=max r.weight (min x.out 1048576+T.weight)→Hid (RB (k+1) ⟨max r.arcs (T.arcs+1),r.words+T.words,max r.weight (min x.out 1048576+T.weight)⟩)∧Hid (RcBlk rb ⟨max r.arcs (T.arcs+1),r.words+T.words,max r.weight (min x.out 1048576+T.weight)⟩ (((W2.setCell ⟨rb,0,none⟩ (.int .i64 v)).setCell ⟨rb,1,none⟩ (.int .i64 u)).setCell ⟨rb,2,none⟩ (.int .i64 z)))∧Hid (RcBlk qb ⟨0,0,0⟩ (((W2.setCell ⟨rb,0,none⟩ (.int .i64 v)).setCell ⟨rb,1,none⟩ (.int .i64 u)).setCell ⟨rb,2,none⟩ (.int .i64 z)))∧Hid (Below w.heap.size w (((W2.setCell ⟨rb,0,none⟩ (.int .i64 v)).setCell ⟨rb,1,none⟩ (.int .i64 u)).setCell ⟨rb,2,none⟩ (.int .i64 z)))):=fun v u z h1 h2 h3=>by
      have hq2:=HQC.out.below hb2;(have hqr:qb≠rb:=fun e=>HRQ.out.2.2 e.symm);subst h1 h2 h3;refine⟨⟨by simp only;omega,by simp only;omega,by simp only;omega,by simp only;omega,by simp only;omega,by simp only;omega⟩,(((hr2.set0 _).set1 _).set2 _),(((hq2.other (zAc _ _ _ _ hqr)).other (zAc _ _ _ _ hqr)).other (zAc _ _ _ _ hqr)),?_⟩;exact(((HB.out.trans (hb2.mono HB.out.size)).setCell (p:=⟨rb,0,none⟩) HRQ.out.1 _).setCell (p:=⟨rb,1,none⟩) HRQ.out.1 _).setCell (p:=⟨rb,2,none⟩) HRQ.out.1 _
     have HE1:Hid (RB (k+1) ⟨max r.arcs (T.arcs+1),r.words+T.words,max r.weight (min x.out 1048576+T.weight)⟩):=(HEND.out _ _ _ rfl rfl rfl).1;(have HE2:Hid (∀v u z,v=max r.arcs (T.arcs+1)→u=r.words+T.words→z=max r.weight (min x.out 1048576+T.weight)→Hid (RcBlk rb ⟨max r.arcs (T.arcs+1),r.words+T.words,max r.weight (min x.out 1048576+T.weight)⟩ (((W2.setCell ⟨rb,0,none⟩ (.int .i64 v)).setCell ⟨rb,1,none⟩ (.int .i64 u)).setCell ⟨rb,2,none⟩ (.int .i64 z)))):=fun v u z h1 h2 h3=>(HEND.out v u z h1 h2 h3).2.1);(have HE3:Hid (∀v u z,v=max r.arcs (T.arcs+1)→u=r.words+T.words→z=max r.weight (min x.out 1048576+T.weight)→Hid (RcBlk qb ⟨0,0,0⟩ (((W2.setCell ⟨rb,0,none⟩ (.int .i64 v)).setCell ⟨rb,1,none⟩ (.int .i64 u)).setCell ⟨rb,2,none⟩ (.int .i64 z)))):=fun v u z h1 h2 h3=>(HEND.out v u z h1 h2 h3).2.2.1);(have HE4:Hid (∀v u z,v=max r.arcs (T.arcs+1)→u=r.words+T.words→z=max r.weight (min x.out 1048576+T.weight)→Hid (Below w.heap.size w (((W2.setCell ⟨rb,0,none⟩ (.int .i64 v)).setCell ⟨rb,1,none⟩ (.int .i64 u)).setCell ⟨rb,2,none⟩ (.int .i64 z)))):=fun v u z h1 h2 h3=>(HEND.out v u z h1 h2 h3).2.2.2);clear hx hT hb2 hA2 hT2 hr2 hrl hne hdA d0 d1 d2 HEND;(go_upto_region 8 with fail);rw[←htb,←hab,←hW2];clear hab htb hW2 c0 c1 c2 d0' d1' d2';go_upto_region 9 with fail
     all_goals
      (have e0:=fun v=>(HW3.out v).1);(have e1:=fun v=>(HW3.out v).2.1);(have e2:=fun v=>(HW3.out v).2.2);(go_upto_region 10 with fail);clear e0 e1 e2;(have f0:=fun v u=>(HW4.out v u).1);(have f1:=fun v u=>(HW4.out v u).2.1);(have f2:=fun v u=>(HW4.out v u).2.2.1);(have f3:=fun v u=>(HW4.out v u).2.2.2);go_wp2
      all_goals
       go_roundg (n-(k+1));case measure=>omega
       case rel=>
        exact⟨k+1,_,by go_num,by omega,Nat.le_refl _,HST,HE1,HE2.out _ _ _ (by omega) rfl (by omega),HE3.out _ _ _ (by omega) rfl (by omega),HE4.out _ _ _ (by omega) rfl (by omega)⟩
   · have hltz:¬(k:Int)<(n:Int):=by omega
     have hfin:behR s known=r:=by
      rw[HRR.out,←HFO.out,List.take_of_length_le (by have:=HN.out;omega)]
     have HFIN:Hid (behR s known=r):=hfin;clear hfin;obtain⟨r0',r1',r2',rz⟩:=HRC.out.facts;obtain⟨q0,q1,q2,qz⟩:=HQC.out.facts;go_wp2;(try simp only[Exit.inBlock,Exit.then]);have hq:=((HQC.out.set0 r.arcs).set1 r.words).set2 r.weight;refine bodyPost_ret (zPd rfl hq.facts.1 hq.facts.2.1 hq.facts.2.2.1) rfl ?_;exact⟨by rw[HFIN.out],((HB.out.setCell (p:=⟨qb,0,none⟩) HRQ.out.2.1 _).setCell (p:=⟨qb,1,none⟩) HRQ.out.2.1 _).setCell (p:=⟨qb,2,none⟩) HRQ.out.2.1 _⟩
