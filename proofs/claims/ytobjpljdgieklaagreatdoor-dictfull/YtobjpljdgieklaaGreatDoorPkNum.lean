import Derived.Test.YtobjpljdgieklaaGreatDoorJ24
import Derived.WalkMore
import Derived.Laws.EntriesVeiled
namespace Go.Proofs.YtobjpljdgieklaaGreatDoor
open Go.RowKit Nums Fm Pk
set_option maxRecDepth 100000
def zL3(sb ab nb vb:Nat):Value := .func (.func 144) #[] #[.pointer (some ⟨sb,0,none⟩),.pointer (some ⟨ab,0,none⟩),.pointer (some ⟨nb,0,none⟩),.pointer (some ⟨vb,0,none⟩)]
structure NumAt(w:World)(sb ab nb vb:Nat)(vs:Value)(am:Bool)(nx:Int):Prop where
 s:w.heap[sb]?=some (.cells #[vs] 37)
 a:w.heap[ab]?=some (.cells #[.bool am] 4)
 n:w.heap[nb]?=some (.cells #[.int .i64 nx] 3)
 v:w.heap[vb]?=some (.cells #[zL3 sb ab nb vb] 220)
theorem NumAt.facts{w:World}{sb ab nb vb:Nat}{vs:Value}{am:Bool}{nx:Int}(h:NumAt w sb ab nb vb vs am nx):w.cell? ⟨sb,0,none⟩=some vs∧w.cell? ⟨ab,0,none⟩=some (.bool am)∧w.cell? ⟨nb,0,none⟩=some (.int .i64 nx)∧w.cell? ⟨vb,0,none⟩=some (zL3 sb ab nb vb)∧(∀o,w.frozen? ⟨ab,o,none⟩=false)∧(∀o,w.frozen? ⟨nb,o,none⟩=false):=
 ⟨by simp[World.cell?,h.s],by simp[World.cell?,h.a],by simp[World.cell?,h.n],by simp[World.cell?,h.v],fun o=>by simp[World.frozen?,h.a],fun o=>by simp[World.frozen?,h.n]⟩
theorem NumAt.below{w w':World}{sb ab nb vb:Nat}{vs:Value}{am:Bool}{nx:Int}(h:NumAt w sb ab nb vb vs am nx)(hb:Below w.heap.size w w'):NumAt w' sb ab nb vb vs am nx:=
 ⟨(hb.block _ (Array.getElem?_eq_some_iff.1 h.s).1).trans h.s,(hb.block _ (Array.getElem?_eq_some_iff.1 h.a).1).trans h.a,(hb.block _ (Array.getElem?_eq_some_iff.1 h.n).1).trans h.n,(hb.block _ (Array.getElem?_eq_some_iff.1 h.v).1).trans h.v⟩
structure Boxes(E sb ab nb vb:Nat):Prop where
 ea:E≤ab
 en:E≤nb
 an:ab≠nb
 sa:sb≠ab
 sn:sb≠nb
 va:vb≠ab
 vn:vb≠nb
theorem NumAt.setA{E:Nat}{w:World}{sb ab nb vb:Nat}{vs:Value}{am:Bool}{nx:Int}(h:NumAt w sb ab nb vb vs am nx)(hp:Boxes E sb ab nb vb)(A:Bool):NumAt (w.setCell ⟨ab,0,none⟩ (.bool A)) sb ab nb vb vs A nx:=
 ⟨(zAh _ _ _ _ hp.sa).trans h.s,by rw[zAx h.a];rfl,(zAh _ _ _ _ (fun e=>hp.an e.symm)).trans h.n,(zAh _ _ _ _ hp.va).trans h.v⟩
theorem NumAt.setN{E:Nat}{w:World}{sb ab nb vb:Nat}{vs:Value}{am:Bool}{nx:Int}(h:NumAt w sb ab nb vb vs am nx)(hp:Boxes E sb ab nb vb)(x:Int):NumAt (w.setCell ⟨nb,0,none⟩ (.int .i64 x)) sb ab nb vb vs am x:=
 ⟨(zAh _ _ _ _ hp.sn).trans h.s,(zAh _ _ _ _ hp.an).trans h.a,by rw[zAx h.n];rfl,(zAh _ _ _ _ hp.vn).trans h.v⟩
theorem zKg{ab nb:Nat}{w wr:World}(h:Upd (fun j=>j=ab∨j=nb) w wr)(x y:Value):Upd (fun j=>j=ab∨j=nb) w ((wr.setCell ⟨ab,0,none⟩ x).setCell ⟨nb,0,none⟩ y):=by
 obtain⟨a1,a2,a3,a4⟩:=zBp wr ab 0 x;obtain⟨b1,b2,b3,b4⟩:=zBp (wr.setCell ⟨ab,0,none⟩ x) nb 0 y;exact⟨(b1.trans a1).trans h.os,(b2.trans a2).trans h.tape,(b3.trans a3).trans h.output,by rw[b4,a4];exact h.size,fun j hj hn=>(zAh _ _ _ _ (fun e=>hn (.inr e))).trans ((zAh _ _ _ _ (fun e=>hn (.inl e))).trans (h.block j hj hn))⟩
def zIs(m:List RSt)(f n next:Nat)(am:Bool)(nx:Int):Prop:=(am=false∧∃k:Nat,nx=k∧vis8 m f n next=some k)∨(am=true∧vis8 m f n next=none)
namespace Pk
theorem vArcs_at{V:Nat→Nat→Option Nat}{l:List RArc}{k next:Nat}{a:RArc}(h:l[k]?=some a):zDk V (l.drop k) next=if (next:Int)≤a.to then (V a.to.toNat next).bind (zDk V (l.drop (k+1)))else zDk V (l.drop (k+1)) next:=by
 obtain⟨hk,rfl⟩:=List.getElem?_eq_some_iff.1 h;rw[List.drop_eq_getElem_cons hk,zDk]
end Pk
structure VLoop(E:Nat)(w wr:World)(sb ab nb vb:Nat)(vs:Value)(m:List RSt)(V:Nat→Nat→Option Nat)(arcs:List RArc)(next k:Nat)(am:Bool)(nx:Int):Prop where
 num:NumAt wr sb ab nb vb vs am nx
 upd:Upd (fun j=>j=ab∨j=nb) w wr
 go:am=false→∃q:Nat,nx=q∧zDk V arcs next=zDk V (arcs.drop k) q
 no:am=true→zDk V arcs next=none
set_option maxHeartbeats 4000000 in
theorem zL2(E:Nat)(m:List RSt)(ad:Option Addr)(cap sb ab nb vb:Nat)(hF:zA5 0 m=true)(hm:m.length≤1048576)(hap:Boxes E sb ab nb vb):
 ∀(f n next:Nat) (w:World),n<f→n<m.length→next≤1048576→StsAt E w (.slice ad m.length cap) m→E≤w.heap.size→NumAt w sb ab nb vb (.slice ad m.length cap) false next →
 Calls Tryz.prog 144 #[.int .i64 n,.pointer (some ⟨sb,0,none⟩),.pointer (some ⟨ab,0,none⟩),.pointer (some ⟨nb,0,none⟩),.pointer (some ⟨vb,0,none⟩)] w fun e w'=>e = .returned (.tuple #[])∧∃am nx,NumAt w' sb ab nb vb (.slice ad m.length cap) am nx∧zIs m f n next am nx∧Upd (fun j=>j=ab∨j=nb) w w'
 |0,n,_,_,hn,_,_,_,_,_=>absurd hn (by omega)
 |f+1,n,next,w,hn,hnm,hnx,hS,hE,hN=>by
  obtain⟨s,hs⟩:∃s,m[n]?=some s:=⟨m[n],List.getElem?_eq_getElem hnm⟩;have hFS:=zHh m 0 n s hF hs;rw[Nat.zero_add]at hFS;obtain⟨q1,q2,q3⟩:=zEu hFS;obtain⟨ml,hml⟩:∃ml,m.length=ml:=⟨_,rfl⟩;have HML:Hid (m.length=ml):=hml;rw[hml]at hnm hm hS hN ⊢;obtain⟨g,off,va,rfl,hg,c0,c1,c2,hA⟩:=hS.at hs;obtain⟨vd,vc,hva⟩:=hA.shape;obtain⟨na,hna⟩:∃na,s.arcs.length=na:=⟨_,rfl⟩;have HNA:Hid (s.arcs.length=na):=hna;rw[hna]at hva q3;subst hva;have hnz:(n:Int)<(ml:Int):=by omega
  have HIH:Hid (∀(n next:Nat) (w:World),n<f→n<m.length→next≤1048576→StsAt E w (.slice (some ⟨g,off,none⟩) m.length cap) m→E≤w.heap.size→NumAt w sb ab nb vb (.slice (some ⟨g,off,none⟩) m.length cap) false next →
   Calls Tryz.prog 144 #[.int .i64 n,.pointer (some ⟨sb,0,none⟩),.pointer (some ⟨ab,0,none⟩),.pointer (some ⟨nb,0,none⟩),.pointer (some ⟨vb,0,none⟩)] w fun e w'=>e = .returned (.tuple #[])∧∃am nx,NumAt w' sb ab nb vb (.slice (some ⟨g,off,none⟩) m.length cap) am nx∧zIs m f n next am nx∧Upd (fun j=>j=ab∨j=nb) w w'):=zL2 E m _ cap sb ab nb vb hF (by omega) hap f
  obtain⟨f0,f1,f2,f3,f4,f5⟩:=hN.facts;have HL0:Hid (VLoop E w w sb ab nb vb (.slice (some ⟨g,off,none⟩) ml cap) m (vis8 m f) s.arcs next 0 false next):=⟨hN,Upd.refl _ _,fun _=>⟨next,rfl,rfl⟩,fun h=>by cases h⟩;have HV8:Hid (vis8 m (f+1) n next=(zDk (vis8 m f) s.arcs next).bind fun k=>if n=k then some (k+1)else none):=by
   show _=_;rw[vis8,List.getD_eq_getElem?_getD,hs];rfl
  have HS:Hid (StsAt E w (.slice (some ⟨g,off,none⟩) ml cap) m):=hS;have HA:Hid (ArcsAt E w (.slice vd na vc) s.arcs):=hA;clear hs hFS hS hN hA hF;go_enter Tryz.func144,Tryz.ntmps144;go_wp2
  go_step3
  go_wp2
  go_step3
  go_wp2
  go_loopg [7,14] na (fun gm _ s14 wr=>∃(k:Nat) (am:Bool) (nx:Int),s14 = .int .i64 k∧k≤na∧na-k≤gm∧Hid (VLoop E w wr sb ab nb vb (.slice (some ⟨g,off,none⟩) ml cap) m (vis8 m f) s.arcs next k am nx))
  case atStart=>exact⟨0,false,next,rfl,Nat.zero_le _,by omega,HL0⟩
  case round=>
   obtain⟨k,am,nx,rfl,hk,hgm,HL⟩:=hrel;clear f0 f1 f2 f3 f4 f5;obtain⟨f0,f1,f2,f3,f4,f5⟩:=HL.out.num.facts;have hbE:Below E w wr:=HL.out.upd.below hE (fun j hj=>hj.elim (fun e=>e▸hap.ea) (fun e=>e▸hap.en));have HBE:Hid (Below E w wr):=hbE;have hEr:E≤wr.heap.size:=Nat.le_trans hE HL.out.upd.size;by_cases hlt:k<na
   · have hltz:(k:Int)<(na:Int):=by omega
     obtain⟨x,hx⟩:∃x,s.arcs[k]?=some x:=⟨s.arcs[k]'(by have:=HNA.out;omega),List.getElem?_eq_getElem _⟩;obtain⟨ag,aoff,rfl,hag,d0,d1,d2⟩:=(HA.out.below hbE).at hx;obtain⟨p0,p1,_⟩:=q1 x (List.mem_of_getElem? hx);obtain⟨t,ht⟩:∃t:Nat,x.to=(t:Int):=⟨x.to.toNat,by omega⟩;rw[ht]at d2 p0 p1;obtain⟨xb,hxb⟩:∃xb,xb=wr.heap.size:=⟨_,rfl⟩;obtain⟨W1,hW1⟩:∃W1,W1=wr.alloc (.cells #[.int .i32 x.label,.int .i64 x.out,.int .i64 (t:Int)] 126):=⟨_,rfl⟩;(have hb1:Below wr.heap.size wr W1:=by rw[hW1];exact(Below.refl _ wr).alloc (Nat.le_refl _) _);(have hn1:W1.heap[xb]?=some (.cells #[.int .i32 x.label,.int .i64 x.out,.int .i64 (t:Int)] 126):=by rw[hW1,hxb];exact zAb _ _);have HN1:=HL.out.num.below hb1;have HU1:Hid (Upd (fun j=>j=ab∨j=nb) w W1):=HL.out.upd.trans (Upd.of_below hb1:Upd (fun _=>False) wr W1) (fun _ _ h=>h.elim);have HNN:Hid (NumAt W1 sb ab nb vb (.slice (some ⟨g,off,none⟩) ml cap) am nx):=HN1;(have e2:W1.cell? ⟨xb,2,none⟩=some (.int .i64 (t:Int)):=by simp[World.cell?,hn1]);obtain⟨g0,g1,g2,g3,g4,g5⟩:=HN1.facts;unfold zL3 at g3;have HE1:Hid (E≤W1.heap.size):=Nat.le_trans hEr hb1.size;have HBE1:Hid (Below E w W1):=hbE.trans (hb1.mono hEr);cases am with
     |true=>
      (have HVN:Hid (vis8 m (f+1) n next=none):=by show _=_;rw[HV8.out,HL.out.no rfl];rfl);(have k2:=fun A=>((HNN.out.setA hap A).facts).2.2.1);(have k5:=fun A=>((HNN.out.setA hap A).facts).2.2.2.2.2);clear hx hn1 hb1 HN1;(go_upto_region 3 with fail);rw[←hxb,←hW1];clear hxb hW1 d0 d1 d2 f0 f1 f2 f3 f4 f5;(have HFIN:Hid (∀x,NumAt ((W1.setCell ⟨ab,0,none⟩ (.bool true)).setCell ⟨nb,0,none⟩ (.int .i64 x)) sb ab nb vb (.slice (some ⟨g,off,none⟩) ml cap) true x):=fun x=>(HNN.out.setA hap true).setN hap x);go_wp2;try simp only[Exit.noGoto]
      go_end0
      exact⟨rfl,true,_,HFIN.out _,.inr ⟨rfl,HVN.out⟩,zKg HU1.out _ _⟩
     |false=>
      obtain⟨q,hq,hgo⟩:=HL.out.go rfl;subst hq;have HGO:Hid (zDk (vis8 m f) s.arcs next=if (q:Int)≤x.to then (vis8 m f x.to.toNat q).bind (zDk (vis8 m f) (s.arcs.drop (k+1)))else zDk (vis8 m f) (s.arcs.drop (k+1)) q):=hgo.trans (vArcs_at hx);rw[ht,Int.toNat_natCast]at HGO;clear hx hn1 hb1 HN1 hgo;(go_upto_region 3 with fail);rw[←hxb,←hW1];clear hxb hW1 d0 d1 d2 f0 f1 f2 f3 f4 f5;by_cases hqt:q≤t
      · have hqz:(q:Int)≤(t:Int):=by omega
        rw[if_pos hqz]at HGO;have HCL:Hid (Calls Tryz.prog 144 #[.int .i64 t,.pointer (some ⟨sb,0,none⟩),.pointer (some ⟨ab,0,none⟩),.pointer (some ⟨nb,0,none⟩),.pointer (some ⟨vb,0,none⟩)] W1 fun e w'=>e = .returned (.tuple #[])∧∃am nx,NumAt w' sb ab nb vb (.slice (some ⟨g,off,none⟩) ml cap) am nx∧zIs m f t q am nx∧Upd (fun j=>j=ab∨j=nb) W1 w'):=by
         have:=HIH.out t q W1 (by omega) (by have:=HML.out;omega) (by omega) (by rw[HML.out];exact HS.out.below HBE1.out) HE1.out (by rw[HML.out];exact HNN.out);rw[HML.out]at this;exact this
        go_wp2_with (go_at_call 144;refine HCL.out.mono ?_;rintro e w2 ⟨rfl,am2,nx2,hn2,hv2,hu2⟩;have HN2:Hid _:=hn2;have HV2:Hid _:=hv2;have HU2:Hid _:=hu2;clear hn2 hv2 hu2);have HNX:Hid (VLoop E w w2 sb ab nb vb (.slice (some ⟨g,off,none⟩) ml cap) m (vis8 m f) s.arcs next (k+1) am2 nx2):=by
         refine⟨HN2.out,HU1.out.trans HU2.out (fun _ _ h=>h),fun ha=>?_,fun ha=>?_⟩
         · rcases HV2.out with⟨_,j,hj,hv⟩|⟨h1,_⟩
           · exact⟨j,hj,by rw[HGO,hv];rfl⟩
           · rw[h1]at ha;cases ha
         · rcases HV2.out with⟨h1,_⟩|⟨_,hv⟩
           · rw[h1]at ha;cases ha
           · rw[HGO,hv];rfl
        go_roundg (na-(k+1));(case measure=>omega);case rel=>exact⟨k+1,_,_,by go_num,by omega,Nat.le_refl _,HNX⟩
      · have hqz:¬(q:Int)≤(t:Int):=by omega
        rw[if_neg hqz]at HGO;have HNX:Hid (VLoop E w W1 sb ab nb vb (.slice (some ⟨g,off,none⟩) ml cap) m (vis8 m f) s.arcs next (k+1) false q):=⟨HNN.out,HU1.out,fun _=>⟨q,rfl,HGO⟩,fun h=>by cases h⟩;go_wp2;go_roundg (na-(k+1));(case measure=>omega);case rel=>exact⟨k+1,_,_,by go_num,by omega,Nat.le_refl _,HNX⟩
   · have hltz:¬(k:Int)<(na:Int):=by omega
     have HU1:Hid (Upd (fun j=>j=ab∨j=nb) w wr):=HL.out.upd;(have k2:=fun A=>((HL.out.num.setA hap A).facts).2.2.1);(have k5:=fun A=>((HL.out.num.setA hap A).facts).2.2.2.2.2);(have HFIN:Hid (∀A x,NumAt ((wr.setCell ⟨ab,0,none⟩ (.bool A)).setCell ⟨nb,0,none⟩ (.int .i64 x)) sb ab nb vb (.slice (some ⟨g,off,none⟩) ml cap) A x):=fun A x=>(HL.out.num.setA hap A).setN hap x);cases am with
     |true=>
      (have HVN:Hid (vis8 m (f+1) n next=none):=by show _=_;rw[HV8.out,HL.out.no rfl];rfl);go_wp2;try simp only[Exit.noGoto]
      go_end0
      exact⟨rfl,true,_,HFIN.out _ _,.inr ⟨rfl,HVN.out⟩,zKg HU1.out _ _⟩
     |false=>
      obtain⟨q,hq,hgo⟩:=HL.out.go rfl;subst hq;rw[List.drop_of_length_le (by have:=HNA.out;omega),zDk]at hgo;by_cases hnq:n=q
      · subst hnq
        (have HVN:Hid (vis8 m (f+1) n next=some (n+1)):=by show _=_;rw[HV8.out,hgo];simp);clear hgo;go_wp2;try simp only[Exit.noGoto]
        go_end0
        exact⟨rfl,false,_,HFIN.out _ _,.inl ⟨rfl,n+1,by go_num,HVN.out⟩,zKg HU1.out _ _⟩
      · have HVN:Hid (vis8 m (f+1) n next=none):=by show _=_;rw[HV8.out,hgo];simp[hnq]
        have h1b:((n:Int)==(q:Int))=false:=beq_eq_false_iff_ne.2 (by omega);(have h1n:((n:Int) != (q:Int))=true:=by simp[bne,h1b]);clear hgo;go_wp2;try simp only[Exit.noGoto]
        go_end0
        exact⟨rfl,true,_,HFIN.out _ _,.inr ⟨rfl,HVN.out⟩,zKg HU1.out _ _⟩
set_option maxHeartbeats 4000000 in
theorem zMn(E:Nat)(w:World)(m:List RSt)(vs:Value)(h:StsAt E w vs m)(hE:E≤w.heap.size)(hF:zA5 0 m=true)(hm:m.length≤1048576)(hm0:m≠[]):
 Calls Tryz.prog 105 #[vs] w fun e w'=>e = .returned (.bool (numB m))∧Below w.heap.size w w':=by
 obtain⟨ad,cap,rfl⟩:=h.shape;have hpos:=List.length_pos_iff.2 hm0;obtain⟨n,hn⟩:∃n,m.length=n+1:=⟨m.length-1,by omega⟩;have HN:Hid (m.length=n+1):=hn;have HR:Hid (StsAt E w (.slice ad m.length cap) m):=h;obtain⟨sb,hsb⟩:∃sb,sb=w.heap.size:=⟨_,rfl⟩;obtain⟨nb,hnb⟩:∃nb,nb=w.heap.size+1:=⟨_,rfl⟩;obtain⟨ab,hab⟩:∃ab,ab=w.heap.size+1+1:=⟨_,rfl⟩;obtain⟨vb,hvb⟩:∃vb,vb=w.heap.size+1+1+1:=⟨_,rfl⟩;have hap:Boxes E sb ab nb vb:=⟨by omega,by omega,by omega,by omega,by omega,by omega,by omega⟩
 have HVS:Hid (∀W,Below w.heap.size w W→NumAt W sb ab nb vb (.slice ad m.length cap) false 0→Calls Tryz.prog 144 #[.int .i64 n,.pointer (some ⟨sb,0,none⟩),.pointer (some ⟨ab,0,none⟩),.pointer (some ⟨nb,0,none⟩),.pointer (some ⟨vb,0,none⟩)] W fun e w'=>e = .returned (.tuple #[])∧∃am nx,NumAt w' sb ab nb vb (.slice ad m.length cap) am nx∧zIs m (m.length+25) n 0 am nx∧Upd (fun j=>j=ab∨j=nb) W w'):=fun W hW hN=>
  zL2 E m ad cap sb ab nb vb hF hm hap (m.length+25) n 0 W (by omega) (by omega) (by omega) (h.below (hW.mono hE)) (Nat.le_trans hE hW.size) hN
 have HNB:Hid (numB m=(vis8 m (m.length+25) n 0).isSome):=by show _=_;unfold numB;rw[show m.length-1=n by omega]
 have HAP:Hid (w.heap.size≤ab∧w.heap.size≤nb):=⟨by omega,by omega⟩;rw[hn]at HVS HR hm ⊢;clear h hn;go_enter Tryz.func105,Tryz.ntmps105;obtain⟨W0,hW0⟩:∃W0,W0=(((w.alloc (.cells #[.slice ad (n+1) cap] 37)).alloc (.cells #[.int .i64 0] 3)).alloc (.cells #[.bool false] 4)).alloc (.cells #[Value.nilFunc] 220):=⟨_,rfl⟩;have hs0:W0.heap[sb]?=some (.cells #[.slice ad (n+1) cap] 37):=by
  rw[hW0,(MapKept.heap_alloc _ _).2 sb (by rw[hsb];simp;omega),(MapKept.heap_alloc _ _).2 sb (by rw[hsb];simp;omega),(MapKept.heap_alloc _ _).2 sb (by rw[hsb];simp),hsb];exact zAb _ _
 have hn0:W0.heap[nb]?=some (.cells #[.int .i64 0] 3):=by
  have e:(w.alloc (.cells #[.slice ad (n+1) cap] 37)).heap.size=nb:=by rw[hnb];simp
  rw[hW0,(MapKept.heap_alloc _ _).2 nb (by rw[hnb];simp),(MapKept.heap_alloc _ _).2 nb (by rw[hnb];simp),←e];exact zAb _ _
 have ha0:W0.heap[ab]?=some (.cells #[.bool false] 4):=by
  have e:((w.alloc (.cells #[.slice ad (n+1) cap] 37)).alloc (.cells #[.int .i64 0] 3)).heap.size=ab:=by rw[hab];simp
  rw[hW0,(MapKept.heap_alloc _ _).2 ab (by rw[hab];simp),←e];exact zAb _ _
 have hv0:W0.heap[vb]?=some (.cells #[Value.nilFunc] 220):=by
  have e:(((w.alloc (.cells #[.slice ad (n+1) cap] 37)).alloc (.cells #[.int .i64 0] 3)).alloc (.cells #[.bool false] 4)).heap.size=vb:=by rw[hvb];simp
  rw[hW0,←e];exact zAb _ _
 have hb0:Below w.heap.size w W0:=by
  rw[hW0];exact((((Below.refl _ w).alloc (Nat.le_refl _) _).alloc (by simp) _).alloc (by simp;omega) _).alloc (by simp;omega) _
 have z0:W0.cell? ⟨vb,0,none⟩=some Value.nilFunc:=by simp[World.cell?,hv0]
 have z1:∀o,W0.frozen? ⟨vb,o,none⟩=false:=fun o=>by simp[World.frozen?,hv0]
 obtain⟨W1,hW1⟩:∃W1,W1=W0.setCell ⟨vb,0,none⟩ (zL3 sb ab nb vb):=⟨_,rfl⟩;have hN1:NumAt W1 sb ab nb vb (.slice ad (n+1) cap) false 0:=by
  rw[hW1];exact⟨(zAh _ _ _ _ (by omega)).trans hs0,(zAh _ _ _ _ (by omega)).trans ha0,(zAh _ _ _ _ (by omega)).trans hn0,by rw[zAx hv0];rfl⟩
 have HB1:Hid (Below w.heap.size w W1):=by show Below _ _ _;rw[hW1];exact hb0.setCell (p:=⟨vb,0,none⟩) (by simp only;omega) _
 have HC:Hid (Calls Tryz.prog 144 #[.int .i64 n,.pointer (some ⟨sb,0,none⟩),.pointer (some ⟨ab,0,none⟩),.pointer (some ⟨nb,0,none⟩),.pointer (some ⟨vb,0,none⟩)] W1 fun e w'=>e = .returned (.tuple #[])∧∃am nx,NumAt w' sb ab nb vb (.slice ad (n+1) cap) am nx∧zIs m (n+1+25) n 0 am nx∧Upd (fun j=>j=ab∨j=nb) W1 w'):=HVS.out W1 HB1.out hN1;have hW1':W1=W0.setCell ⟨vb,0,none⟩ (.func (.func 144) #[] #[.pointer (some ⟨sb,0,none⟩),.pointer (some ⟨ab,0,none⟩),.pointer (some ⟨nb,0,none⟩),.pointer (some ⟨vb,0,none⟩)]):=hW1;obtain⟨g0,g1,g2,g3,g4,g5⟩:=hN1.facts;unfold zL3 at g3;have hwrp:IntKind.i64.wrap (((n+1:Nat):Int)-1)=(n:Int):=by rw[IntKind.wrap_i64];omega
 clear hs0 hn0 ha0 hv0 hb0 hN1 hW1 hap;go_upto_region 3 with fail
 rw[←hvb,←hab,←hnb,←hsb,←hW0];clear hW0 hsb hab hnb hvb;go_upto_region 4 with fail
 rw[←hW1'];clear hW1' z0 z1;go_upto_region 5 with(go_at_call 144;refine HC.out.mono ?_;rintro e w2 ⟨rfl,am,nx,hn2,hv2,hu2⟩)
 obtain⟨g0',g1',g2',g3',g4',g5'⟩:=hn2.facts;have hbel:Below w.heap.size w w2:=HB1.out.trans (hu2.below HB1.out.size (fun j hj=>hj.elim (fun e=>e▸HAP.out.1) (fun e=>e▸HAP.out.2)));have HAM:Hid (numB m=!am):=by
  show _=_;rw[HNB.out,HN.out];rcases hv2 with⟨rfl,k,_,h2⟩|⟨rfl,h2⟩
  · rw[h2];rfl
  · rw[h2];rfl
 clear hn2 hv2 hu2;go_wp2;go_ret;exact⟨by rw[HAM.out];rfl,hbel⟩
