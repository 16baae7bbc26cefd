import Derived.Test.YtobjpljdgieklaaGreatDoorJ36
import Derived.WalkMore
import Derived.Laws.EntriesVeiled
import Derived.Test.YtobjpljdgieklaaGreatDoorBtDown
import Derived.Test.YtobjpljdgieklaaGreatDoorJ8
import Derived.Deep.Strs
import Derived.Lib.SmallJoins
set_option maxRecDepth 100000
set_option maxHeartbeats 8000000
namespace Go.Proofs.YtobjpljdgieklaaGreatDoor
section
open Go.RowKit Nums Fm Pk
def zLu(sb ab nb vb:Nat):Value := .func (.func 144) #[] #[.pointer (some ⟨sb,0,none⟩),.pointer (some ⟨ab,0,none⟩),.pointer (some ⟨nb,0,none⟩),.pointer (some ⟨vb,0,none⟩)]
structure NumAt(w:World)(sb ab nb vb:Nat)(vs:Value)(am:Bool)(nx:Int):Prop where
 s:w.heap[sb]?=some (.cells #[vs] 37)
 a:w.heap[ab]?=some (.cells #[.bool am] 4)
 n:w.heap[nb]?=some (.cells #[.int .i64 nx] 3)
 v:w.heap[vb]?=some (.cells #[zLu sb ab nb vb] 220)
theorem NumAt.facts{w:World}{sb ab nb vb:Nat}{vs:Value}{am:Bool}{nx:Int}(h:NumAt w sb ab nb vb vs am nx):w.cell? ⟨sb,0,none⟩=some vs∧w.cell? ⟨ab,0,none⟩=some (.bool am)∧w.cell? ⟨nb,0,none⟩=some (.int .i64 nx)∧w.cell? ⟨vb,0,none⟩=some (zLu sb ab nb vb)∧(∀o,w.frozen? ⟨ab,o,none⟩=false)∧(∀o,w.frozen? ⟨nb,o,none⟩=false):=
 ⟨by simp[World.cell?,h.s],by simp[World.cell?,h.a],by simp[World.cell?,h.n],by simp[World.cell?,h.v],fun o=>by simp[World.frozen?,h.a],fun o=>by simp[World.frozen?,h.n]⟩
theorem NumAt.below{w w':World}{sb ab nb vb:Nat}{vs:Value}{am:Bool}{nx:Int}(h:NumAt w sb ab nb vb vs am nx)(hb:Below w.heap.size w w'):NumAt w' sb ab nb vb vs am nx:=
 ⟨(hb.block _ (Array.getElem?_eq_some_iff.1 h.s).1).trans h.s,(hb.block _ (Array.getElem?_eq_some_iff.1 h.a).1).trans h.a,(hb.block _ (Array.getElem?_eq_some_iff.1 h.n).1).trans h.n,(hb.block _ (Array.getElem?_eq_some_iff.1 h.v).1).trans h.v⟩
structure Boxes(E sb ab nb vb:Nat):Prop where
 ea:E≤ab
 en:E≤nb
 an:ab≠nb
 sa:sb≠ab
 sn:sb≠nb
 va:vb≠ab
 vn:vb≠nb
theorem NumAt.setA{E:Nat}{w:World}{sb ab nb vb:Nat}{vs:Value}{am:Bool}{nx:Int}(h:NumAt w sb ab nb vb vs am nx)(hp:Boxes E sb ab nb vb)(A:Bool):NumAt (w.setCell ⟨ab,0,none⟩ (.bool A)) sb ab nb vb vs A nx:=
 ⟨(zAc _ _ _ _ hp.sa).trans h.s,by rw[zAu h.a];rfl,(zAc _ _ _ _ (fun e=>hp.an e.symm)).trans h.n,(zAc _ _ _ _ hp.va).trans h.v⟩
theorem NumAt.setN{E:Nat}{w:World}{sb ab nb vb:Nat}{vs:Value}{am:Bool}{nx:Int}(h:NumAt w sb ab nb vb vs am nx)(hp:Boxes E sb ab nb vb)(x:Int):NumAt (w.setCell ⟨nb,0,none⟩ (.int .i64 x)) sb ab nb vb vs am x:=
 ⟨(zAc _ _ _ _ hp.sn).trans h.s,(zAc _ _ _ _ hp.an).trans h.a,by rw[zAu h.n];rfl,(zAc _ _ _ _ hp.vn).trans h.v⟩
theorem zJ0{ab nb:Nat}{w wr:World}(h:Upd (fun j=>j=ab∨j=nb) w wr)(x y:Value):Upd (fun j=>j=ab∨j=nb) w ((wr.setCell ⟨ab,0,none⟩ x).setCell ⟨nb,0,none⟩ y):=by
 obtain⟨a1,a2,a3,a4⟩:=zA3 wr ab 0 x;obtain⟨b1,b2,b3,b4⟩:=zA3 (wr.setCell ⟨ab,0,none⟩ x) nb 0 y;exact⟨(b1.trans a1).trans h.os,(b2.trans a2).trans h.tape,(b3.trans a3).trans h.output,by rw[b4,a4];exact h.size,fun j hj hn=>(zAc _ _ _ _ (fun e=>hn (.inr e))).trans ((zAc _ _ _ _ (fun e=>hn (.inl e))).trans (h.block j hj hn))⟩
def zIj(m:List RSt)(f n next:Nat)(am:Bool)(nx:Int):Prop:=(am=false∧∃k:Nat,nx=k∧vis8 m f n next=some k)∨(am=true∧vis8 m f n next=none)
namespace Pk
theorem vArcs_at{V:Nat→Nat→Option Nat}{l:List RArc}{k next:Nat}{a:RArc}(h:l[k]?=some a):zDl V (l.drop k) next=if (next:Int)≤a.to then (V a.to.toNat next).bind (zDl V (l.drop (k+1)))else zDl V (l.drop (k+1)) next:=by
 obtain⟨hk,rfl⟩:=List.getElem?_eq_some_iff.1 h;rw[List.drop_eq_getElem_cons hk,zDl]
end Pk
structure VLoop(E:Nat)(w wr:World)(sb ab nb vb:Nat)(vs:Value)(m:List RSt)(V:Nat→Nat→Option Nat)(arcs:List RArc)(next k:Nat)(am:Bool)(nx:Int):Prop where
 num:NumAt wr sb ab nb vb vs am nx
 upd:Upd (fun j=>j=ab∨j=nb) w wr
 go:am=false→∃q:Nat,nx=q∧zDl V arcs next=zDl V (arcs.drop k) q
 no:am=true→zDl V arcs next=none
theorem zLt(E:Nat)(m:List RSt)(ad:Option Addr)(cap sb ab nb vb:Nat)(hF:zBg 0 m=true)(hm:m.length≤1048576)(hap:Boxes E sb ab nb vb):
 ∀(f n next:Nat) (w:World),n<f→n<m.length→next≤1048576→StsAt E w (.slice ad m.length cap) m→E≤w.heap.size→NumAt w sb ab nb vb (.slice ad m.length cap) false next →
 Calls Tryz.prog 144 #[.int .i64 n,.pointer (some ⟨sb,0,none⟩),.pointer (some ⟨ab,0,none⟩),.pointer (some ⟨nb,0,none⟩),.pointer (some ⟨vb,0,none⟩)] w fun e w'=>e = .returned (.tuple #[])∧∃am nx,NumAt w' sb ab nb vb (.slice ad m.length cap) am nx∧zIj m f n next am nx∧Upd (fun j=>j=ab∨j=nb) w w'
 |0,n,_,_,hn,_,_,_,_,_=>absurd hn (by omega)
 |f+1,n,next,w,hn,hnm,hnx,hS,hE,hN=>by
  obtain⟨s,hs⟩:∃s,m[n]?=some s:=⟨m[n],List.getElem?_eq_getElem hnm⟩;have hFS:=zHa m 0 n s hF hs;rw[Nat.zero_add]at hFS;obtain⟨q1,q2,q3⟩:=zEo hFS;obtain⟨ml,hml⟩:∃ml,m.length=ml:=⟨_,rfl⟩;have HML:Hid (m.length=ml):=hml;rw[hml]at hnm hm hS hN ⊢;obtain⟨g,off,va,rfl,hg,c0,c1,c2,hA⟩:=hS.at hs;obtain⟨vd,vc,hva⟩:=hA.shape;obtain⟨na,hna⟩:∃na,s.arcs.length=na:=⟨_,rfl⟩;have HNA:Hid (s.arcs.length=na):=hna;rw[hna]at hva q3;subst hva;have hnz:(n:Int)<(ml:Int):=by omega
  have HIH:Hid (∀(n next:Nat) (w:World),n<f→n<m.length→next≤1048576→StsAt E w (.slice (some ⟨g,off,none⟩) m.length cap) m→E≤w.heap.size→NumAt w sb ab nb vb (.slice (some ⟨g,off,none⟩) m.length cap) false next →
   Calls Tryz.prog 144 #[.int .i64 n,.pointer (some ⟨sb,0,none⟩),.pointer (some ⟨ab,0,none⟩),.pointer (some ⟨nb,0,none⟩),.pointer (some ⟨vb,0,none⟩)] w fun e w'=>e = .returned (.tuple #[])∧∃am nx,NumAt w' sb ab nb vb (.slice (some ⟨g,off,none⟩) m.length cap) am nx∧zIj m f n next am nx∧Upd (fun j=>j=ab∨j=nb) w w'):=zLt E m _ cap sb ab nb vb hF (by omega) hap f
  obtain⟨f0,f1,f2,f3,f4,f5⟩:=hN.facts;have HL0:Hid (VLoop E w w sb ab nb vb (.slice (some ⟨g,off,none⟩) ml cap) m (vis8 m f) s.arcs next 0 false next):=⟨hN,Upd.refl _ _,fun _=>⟨next,rfl,rfl⟩,fun h=>by cases h⟩;have HV8:Hid (vis8 m (f+1) n next=(zDl (vis8 m f) s.arcs next).bind fun k=>if n=k then some (k+1)else none):=by
   show _=_;rw[vis8,List.getD_eq_getElem?_getD,hs];rfl
  have HS:Hid (StsAt E w (.slice (some ⟨g,off,none⟩) ml cap) m):=hS;have HA:Hid (ArcsAt E w (.slice vd na vc) s.arcs):=hA;clear hs hFS hS hN hA hF;go_enter Tryz.func144,Tryz.ntmps144;go_wp2
  go_step3
  go_wp2
  go_step3
  go_wp2
  go_loopg [7,14] na (fun gm _ s14 wr=>∃(k:Nat) (am:Bool) (nx:Int),s14 = .int .i64 k∧k≤na∧na-k≤gm∧Hid (VLoop E w wr sb ab nb vb (.slice (some ⟨g,off,none⟩) ml cap) m (vis8 m f) s.arcs next k am nx))
  case atStart=>exact⟨0,false,next,rfl,Nat.zero_le _,by omega,HL0⟩
  case round=>
   obtain⟨k,am,nx,rfl,hk,hgm,HL⟩:=hrel;clear f0 f1 f2 f3 f4 f5;obtain⟨f0,f1,f2,f3,f4,f5⟩:=HL.out.num.facts;have hbE:Below E w wr:=HL.out.upd.below hE (fun j hj=>hj.elim (fun e=>e▸hap.ea) (fun e=>e▸hap.en));have HBE:Hid (Below E w wr):=hbE;have hEr:E≤wr.heap.size:=Nat.le_trans hE HL.out.upd.size;by_cases hlt:k<na
   · have hltz:(k:Int)<(na:Int):=by omega
     obtain⟨x,hx⟩:∃x,s.arcs[k]?=some x:=⟨s.arcs[k]'(by have:=HNA.out;omega),List.getElem?_eq_getElem _⟩;obtain⟨ag,aoff,rfl,hag,d0,d1,d2⟩:=(HA.out.below hbE).at hx;obtain⟨p0,p1,_⟩:=q1 x (List.mem_of_getElem? hx);obtain⟨t,ht⟩:∃t:Nat,x.to=(t:Int):=⟨x.to.toNat,by omega⟩;rw[ht]at d2 p0 p1;obtain⟨xb,hxb⟩:∃xb,xb=wr.heap.size:=⟨_,rfl⟩;obtain⟨W1,hW1⟩:∃W1,W1=wr.alloc (.cells #[.int .i32 x.label,.int .i64 x.out,.int .i64 (t:Int)] 126):=⟨_,rfl⟩;(have hb1:Below wr.heap.size wr W1:=by rw[hW1];exact(Below.refl _ wr).alloc (Nat.le_refl _) _);(have hn1:W1.heap[xb]?=some (.cells #[.int .i32 x.label,.int .i64 x.out,.int .i64 (t:Int)] 126):=by rw[hW1,hxb];exact zAb _ _);have HN1:=HL.out.num.below hb1;have HU1:Hid (Upd (fun j=>j=ab∨j=nb) w W1):=HL.out.upd.trans (Upd.of_below hb1:Upd (fun _=>False) wr W1) (fun _ _ h=>h.elim);have HNN:Hid (NumAt W1 sb ab nb vb (.slice (some ⟨g,off,none⟩) ml cap) am nx):=HN1;(have e2:W1.cell? ⟨xb,2,none⟩=some (.int .i64 (t:Int)):=by simp[World.cell?,hn1]);obtain⟨g0,g1,g2,g3,g4,g5⟩:=HN1.facts;unfold zLu at g3;have HE1:Hid (E≤W1.heap.size):=Nat.le_trans hEr hb1.size;have HBE1:Hid (Below E w W1):=hbE.trans (hb1.mono hEr);cases am with
     |true=>
      (have HVN:Hid (vis8 m (f+1) n next=none):=by show _=_;rw[HV8.out,HL.out.no rfl];rfl);(have k2:=fun A=>((HNN.out.setA hap A).facts).2.2.1);(have k5:=fun A=>((HNN.out.setA hap A).facts).2.2.2.2.2);clear hx hn1 hb1 HN1;(go_upto_region 3 with fail);rw[←hxb,←hW1];clear hxb hW1 d0 d1 d2 f0 f1 f2 f3 f4 f5;(have HFIN:Hid (∀x,NumAt ((W1.setCell ⟨ab,0,none⟩ (.bool true)).setCell ⟨nb,0,none⟩ (.int .i64 x)) sb ab nb vb (.slice (some ⟨g,off,none⟩) ml cap) true x):=fun x=>(HNN.out.setA hap true).setN hap x);go_wp2;try simp only[Exit.noGoto]
      go_end0
      exact⟨rfl,true,_,HFIN.out _,.inr ⟨rfl,HVN.out⟩,zJ0 HU1.out _ _⟩
     |false=>
      obtain⟨q,hq,hgo⟩:=HL.out.go rfl;subst hq;have HGO:Hid (zDl (vis8 m f) s.arcs next=if (q:Int)≤x.to then (vis8 m f x.to.toNat q).bind (zDl (vis8 m f) (s.arcs.drop (k+1)))else zDl (vis8 m f) (s.arcs.drop (k+1)) q):=hgo.trans (vArcs_at hx);rw[ht,Int.toNat_natCast]at HGO;clear hx hn1 hb1 HN1 hgo;(go_upto_region 3 with fail);rw[←hxb,←hW1];clear hxb hW1 d0 d1 d2 f0 f1 f2 f3 f4 f5;by_cases hqt:q≤t
      · have hqz:(q:Int)≤(t:Int):=by omega
        rw[if_pos hqz]at HGO;have HCL:Hid (Calls Tryz.prog 144 #[.int .i64 t,.pointer (some ⟨sb,0,none⟩),.pointer (some ⟨ab,0,none⟩),.pointer (some ⟨nb,0,none⟩),.pointer (some ⟨vb,0,none⟩)] W1 fun e w'=>e = .returned (.tuple #[])∧∃am nx,NumAt w' sb ab nb vb (.slice (some ⟨g,off,none⟩) ml cap) am nx∧zIj m f t q am nx∧Upd (fun j=>j=ab∨j=nb) W1 w'):=by
         have:=HIH.out t q W1 (by omega) (by have:=HML.out;omega) (by omega) (by rw[HML.out];exact HS.out.below HBE1.out) HE1.out (by rw[HML.out];exact HNN.out);rw[HML.out]at this;exact this
        go_wp2_with (go_at_call 144;refine HCL.out.mono ?_;rintro e w2 ⟨rfl,am2,nx2,hn2,hv2,hu2⟩;have HN2:Hid _:=hn2;have HV2:Hid _:=hv2;have HU2:Hid _:=hu2;clear hn2 hv2 hu2);have HNX:Hid (VLoop E w w2 sb ab nb vb (.slice (some ⟨g,off,none⟩) ml cap) m (vis8 m f) s.arcs next (k+1) am2 nx2):=by
         refine⟨HN2.out,HU1.out.trans HU2.out (fun _ _ h=>h),fun ha=>?_,fun ha=>?_⟩
         · rcases HV2.out with⟨_,j,hj,hv⟩|⟨h1,_⟩
           · exact⟨j,hj,by rw[HGO,hv];rfl⟩
           · rw[h1]at ha;cases ha
         · rcases HV2.out with⟨h1,_⟩|⟨_,hv⟩
           · rw[h1]at ha;cases ha
           · rw[HGO,hv];rfl
        go_roundg (na-(k+1));(case measure=>omega);case rel=>exact⟨k+1,_,_,by go_num,by omega,Nat.le_refl _,HNX⟩
      · have hqz:¬(q:Int)≤(t:Int):=by omega
        rw[if_neg hqz]at HGO;have HNX:Hid (VLoop E w W1 sb ab nb vb (.slice (some ⟨g,off,none⟩) ml cap) m (vis8 m f) s.arcs next (k+1) false q):=⟨HNN.out,HU1.out,fun _=>⟨q,rfl,HGO⟩,fun h=>by cases h⟩;go_wp2;go_roundg (na-(k+1));(case measure=>omega);case rel=>exact⟨k+1,_,_,by go_num,by omega,Nat.le_refl _,HNX⟩
   · have hltz:¬(k:Int)<(na:Int):=by omega
     have HU1:Hid (Upd (fun j=>j=ab∨j=nb) w wr):=HL.out.upd;(have k2:=fun A=>((HL.out.num.setA hap A).facts).2.2.1);(have k5:=fun A=>((HL.out.num.setA hap A).facts).2.2.2.2.2);(have HFIN:Hid (∀A x,NumAt ((wr.setCell ⟨ab,0,none⟩ (.bool A)).setCell ⟨nb,0,none⟩ (.int .i64 x)) sb ab nb vb (.slice (some ⟨g,off,none⟩) ml cap) A x):=fun A x=>(HL.out.num.setA hap A).setN hap x);cases am with
     |true=>
      (have HVN:Hid (vis8 m (f+1) n next=none):=by show _=_;rw[HV8.out,HL.out.no rfl];rfl);go_wp2;try simp only[Exit.noGoto]
      go_end0
      exact⟨rfl,true,_,HFIN.out _ _,.inr ⟨rfl,HVN.out⟩,zJ0 HU1.out _ _⟩
     |false=>
      obtain⟨q,hq,hgo⟩:=HL.out.go rfl;subst hq;rw[List.drop_of_length_le (by have:=HNA.out;omega),zDl]at hgo;by_cases hnq:n=q
      · subst hnq
        (have HVN:Hid (vis8 m (f+1) n next=some (n+1)):=by show _=_;rw[HV8.out,hgo];simp);clear hgo;go_wp2;try simp only[Exit.noGoto]
        go_end0
        exact⟨rfl,false,_,HFIN.out _ _,.inl ⟨rfl,n+1,by go_num,HVN.out⟩,zJ0 HU1.out _ _⟩
      · have HVN:Hid (vis8 m (f+1) n next=none):=by show _=_;rw[HV8.out,hgo];simp[hnq]
        have h1b:((n:Int)==(q:Int))=false:=beq_eq_false_iff_ne.2 (by omega);(have h1n:((n:Int) != (q:Int))=true:=by simp[bne,h1b]);clear hgo;go_wp2;try simp only[Exit.noGoto]
        go_end0
        exact⟨rfl,true,_,HFIN.out _ _,.inr ⟨rfl,HVN.out⟩,zJ0 HU1.out _ _⟩
theorem zMi(E:Nat)(w:World)(m:List RSt)(vs:Value)(h:StsAt E w vs m)(hE:E≤w.heap.size)(hF:zBg 0 m=true)(hm:m.length≤1048576)(hm0:m≠[]):
 Calls Tryz.prog 105 #[vs] w fun e w'=>e = .returned (.bool (numB m))∧Below w.heap.size w w':=by
 obtain⟨ad,cap,rfl⟩:=h.shape;have hpos:=List.length_pos_iff.2 hm0;obtain⟨n,hn⟩:∃n,m.length=n+1:=⟨m.length-1,by omega⟩;have HN:Hid (m.length=n+1):=hn;have HR:Hid (StsAt E w (.slice ad m.length cap) m):=h;obtain⟨sb,hsb⟩:∃sb,sb=w.heap.size:=⟨_,rfl⟩;obtain⟨nb,hnb⟩:∃nb,nb=w.heap.size+1:=⟨_,rfl⟩;obtain⟨ab,hab⟩:∃ab,ab=w.heap.size+1+1:=⟨_,rfl⟩;obtain⟨vb,hvb⟩:∃vb,vb=w.heap.size+1+1+1:=⟨_,rfl⟩;have hap:Boxes E sb ab nb vb:=⟨by omega,by omega,by omega,by omega,by omega,by omega,by omega⟩
 have HVS:Hid (∀W,Below w.heap.size w W→NumAt W sb ab nb vb (.slice ad m.length cap) false 0→Calls Tryz.prog 144 #[.int .i64 n,.pointer (some ⟨sb,0,none⟩),.pointer (some ⟨ab,0,none⟩),.pointer (some ⟨nb,0,none⟩),.pointer (some ⟨vb,0,none⟩)] W fun e w'=>e = .returned (.tuple #[])∧∃am nx,NumAt w' sb ab nb vb (.slice ad m.length cap) am nx∧zIj m (m.length+25) n 0 am nx∧Upd (fun j=>j=ab∨j=nb) W w'):=fun W hW hN=>
  zLt E m ad cap sb ab nb vb hF hm hap (m.length+25) n 0 W (by omega) (by omega) (by omega) (h.below (hW.mono hE)) (Nat.le_trans hE hW.size) hN
 have HNB:Hid (numB m=(vis8 m (m.length+25) n 0).isSome):=by show _=_;unfold numB;rw[show m.length-1=n by omega]
 have HAP:Hid (w.heap.size≤ab∧w.heap.size≤nb):=⟨by omega,by omega⟩;rw[hn]at HVS HR hm ⊢;clear h hn;go_enter Tryz.func105,Tryz.ntmps105;obtain⟨W0,hW0⟩:∃W0,W0=(((w.alloc (.cells #[.slice ad (n+1) cap] 37)).alloc (.cells #[.int .i64 0] 3)).alloc (.cells #[.bool false] 4)).alloc (.cells #[Value.nilFunc] 220):=⟨_,rfl⟩;have hs0:W0.heap[sb]?=some (.cells #[.slice ad (n+1) cap] 37):=by
  rw[hW0,(MapKept.heap_alloc _ _).2 sb (by rw[hsb];simp;omega),(MapKept.heap_alloc _ _).2 sb (by rw[hsb];simp;omega),(MapKept.heap_alloc _ _).2 sb (by rw[hsb];simp),hsb];exact zAb _ _
 have hn0:W0.heap[nb]?=some (.cells #[.int .i64 0] 3):=by
  have e:(w.alloc (.cells #[.slice ad (n+1) cap] 37)).heap.size=nb:=by rw[hnb];simp
  rw[hW0,(MapKept.heap_alloc _ _).2 nb (by rw[hnb];simp),(MapKept.heap_alloc _ _).2 nb (by rw[hnb];simp),←e];exact zAb _ _
 have ha0:W0.heap[ab]?=some (.cells #[.bool false] 4):=by
  have e:((w.alloc (.cells #[.slice ad (n+1) cap] 37)).alloc (.cells #[.int .i64 0] 3)).heap.size=ab:=by rw[hab];simp
  rw[hW0,(MapKept.heap_alloc _ _).2 ab (by rw[hab];simp),←e];exact zAb _ _
 have hv0:W0.heap[vb]?=some (.cells #[Value.nilFunc] 220):=by
  have e:(((w.alloc (.cells #[.slice ad (n+1) cap] 37)).alloc (.cells #[.int .i64 0] 3)).alloc (.cells #[.bool false] 4)).heap.size=vb:=by rw[hvb];simp
  rw[hW0,←e];exact zAb _ _
 have hb0:Below w.heap.size w W0:=by
  rw[hW0];exact((((Below.refl _ w).alloc (Nat.le_refl _) _).alloc (by simp) _).alloc (by simp;omega) _).alloc (by simp;omega) _
 have z0:W0.cell? ⟨vb,0,none⟩=some Value.nilFunc:=by simp[World.cell?,hv0]
 have z1:∀o,W0.frozen? ⟨vb,o,none⟩=false:=fun o=>by simp[World.frozen?,hv0]
 obtain⟨W1,hW1⟩:∃W1,W1=W0.setCell ⟨vb,0,none⟩ (zLu sb ab nb vb):=⟨_,rfl⟩;have hN1:NumAt W1 sb ab nb vb (.slice ad (n+1) cap) false 0:=by
  rw[hW1];exact⟨(zAc _ _ _ _ (by omega)).trans hs0,(zAc _ _ _ _ (by omega)).trans ha0,(zAc _ _ _ _ (by omega)).trans hn0,by rw[zAu hv0];rfl⟩
 have HB1:Hid (Below w.heap.size w W1):=by show Below _ _ _;rw[hW1];exact hb0.setCell (p:=⟨vb,0,none⟩) (by simp only;omega) _
 have HC:Hid (Calls Tryz.prog 144 #[.int .i64 n,.pointer (some ⟨sb,0,none⟩),.pointer (some ⟨ab,0,none⟩),.pointer (some ⟨nb,0,none⟩),.pointer (some ⟨vb,0,none⟩)] W1 fun e w'=>e = .returned (.tuple #[])∧∃am nx,NumAt w' sb ab nb vb (.slice ad (n+1) cap) am nx∧zIj m (n+1+25) n 0 am nx∧Upd (fun j=>j=ab∨j=nb) W1 w'):=HVS.out W1 HB1.out hN1;have hW1':W1=W0.setCell ⟨vb,0,none⟩ (.func (.func 144) #[] #[.pointer (some ⟨sb,0,none⟩),.pointer (some ⟨ab,0,none⟩),.pointer (some ⟨nb,0,none⟩),.pointer (some ⟨vb,0,none⟩)]):=hW1;obtain⟨g0,g1,g2,g3,g4,g5⟩:=hN1.facts;unfold zLu at g3;have hwrp:IntKind.i64.wrap (((n+1:Nat):Int)-1)=(n:Int):=by rw[IntKind.wrap_i64];omega
 clear hs0 hn0 ha0 hv0 hb0 hN1 hW1 hap;go_upto_region 3 with fail
 rw[←hvb,←hab,←hnb,←hsb,←hW0];clear hW0 hsb hab hnb hvb;go_upto_region 4 with fail
 rw[←hW1'];clear hW1' z0 z1;go_upto_region 5 with(go_at_call 144;refine HC.out.mono ?_;rintro e w2 ⟨rfl,am,nx,hn2,hv2,hu2⟩)
 obtain⟨g0',g1',g2',g3',g4',g5'⟩:=hn2.facts;have hbel:Below w.heap.size w w2:=HB1.out.trans (hu2.below HB1.out.size (fun j hj=>hj.elim (fun e=>e▸HAP.out.1) (fun e=>e▸HAP.out.2)));have HAM:Hid (numB m=!am):=by
  show _=_;rw[HNB.out,HN.out];rcases hv2 with⟨rfl,k,_,h2⟩|⟨rfl,h2⟩
  · rw[h2];rfl
  · rw[h2];rfl
 clear hn2 hv2 hu2;go_wp2;go_ret;exact⟨by rw[HAM.out];rfl,hbel⟩
end
section
open Go.RowKit Go.Lib Nums Pm
namespace Bt
def Nxt(w:World)(v v':Value):Prop:=v'.ownBlock=v.ownBlock∨∃g,v'.ownBlock=some g∧w.heap.size≤g
theorem KF.nxt{w:World}{p:Nat}{v v':Value}(h:Nxt w v v'){k:Nat}(hk:k<w.heap.size)(f:KF p v' k):KF p v k:=by
 rcases f with f|f
 · exact .inl f
 · rcases h with e|⟨g,e,hg⟩
   · exact .inr (e▸f)
   · rw[e]at f;cases f;omega
theorem Push_any(B:Nat)(w:World)(p:Nat)(room:Int)(v:Value)(h:List Mt)(m:Mt)(K:KAt B w p room v h)(H:Hp h.length h)(hl:h.length<549755813888):
 Calls Tryz.prog 128 #[zGd p,.iface 74 (valM m)] w fun e w'=>e = .returned (.tuple #[])∧∃v' h',KAt B w' p room v' h'∧Upd (KF p v) w w'∧Nxt w v v'∧h'.Perm (h++[m])∧Hp h'.length h':=by
 have HP:Hid (Calls Tryz.prog 223 #[.pointer (some ⟨p,1,none⟩),.iface 74 (valM m)] w fun e w'=>e = .returned (.tuple #[])∧∃v',KAt B w' p room v' (h++[m])∧Upd (KF p v) w w'∧(v'.ownBlock=v.ownBlock∨∃g,v'.ownBlock=some g∧w.heap.size≤g)):=zXq B w p room v h m K (by omega);have HJ:Hid (UpJ (h++[m]).length (h++[m]) h.length):=by
  have:=UpJ.start (x:=m) H;have e:(h++[m]).length=h.length+1:=by simp
  show UpJ _ _ _;rw[e];exact this
 have hmp:=zU1 w p;obtain⟨n,hn⟩:∃n,h.length=n:=⟨_,rfl⟩;have HN:Hid (h.length=n):=hn;rw[hn]at hl HJ;clear K H hn;generalize valM m=vm at *;unfold zGd;go_enter Tryz.func128,Tryz.ntmps128;go_upto_region 1 with(go_at_call 223;refine HP.out.mono ?_;rintro e w1 ⟨rfl,v1,hK1,hu1,hx1⟩)
 obtain⟨ad,cap,hv1⟩:=hK1.form;obtain⟨n1,hn1⟩:∃n1,(h++[m]).length=n1:=⟨_,rfl⟩;rw[hn1]at hv1 HJ;subst hv1;have hn2:n1=n+1:=by have:=HN.out;simp at hn1;omega
 have HK1:Hid (KAt B w1 p room (.slice ad n1 cap) (h++[m])):=hK1;have HU1:Hid (Upd (KF p v) w w1):=hu1;have HX1:Hid (Nxt w v (.slice ad n1 cap)):=hx1;have hml:=zQl w1 p ad n1 cap hK1.c1;have hsub:IntKind.i64.wrap ((n1:Int)-1)=(n:Int):=by rw[IntKind.wrap_i64];omega
 have hsub2:(n1:Int)-1=(n:Int):=by omega
 have HUP:Hid (Calls Tryz.prog 162 #[.iface 199 (.pointer (some ⟨p,1,none⟩)),.int .i64 n] w1 fun e w'=>e = .returned (.tuple #[])∧∃h',KAt B w' p room (.slice ad n1 cap) h'∧Upd (KF p (.slice ad n1 cap)) w1 w'∧h'.Perm (h++[m])∧Hp h'.length h'):=up_any B w1 p room _ (h++[m]) n hK1 (by rw[hn1];exact HJ.out) (by rw[hn1];omega);clear hK1 hu1 hx1 hmp HP HJ hn1 hn2
 go_wp2_with (first
  |(go_at_call 160;refine(zLj w1 ad n1 cap).mono ?_;rintro e w2 ⟨rfl,rfl⟩)
  |(go_at_call 162;refine HUP.out.mono ?_;rintro e w3 ⟨rfl,h3,hK3,hu3,hp3,hh3⟩))
 go_returns;exact⟨rfl,_,h3,hK3,HU1.out.trans hu3 (fun k hk f=>KF.nxt HX1.out hk f),HX1.out,hp3,hh3⟩
theorem Pop_any(B:Nat)(w:World)(p:Nat)(room:Int)(v:Value)(h:List Mt)(n:Nat)(K:KAt B w p room v h)(H:Hp h.length h)(hn:h.length=n+1)(hl:h.length<549755813888):
 Calls Tryz.prog 161 #[zGd p] w fun e w'=>e = .returned (.iface 74 (valM (el h 0)))∧∃v' h',KAt B w' p room v' h'∧Upd (KF p v) w w'∧v'.ownBlock=v.ownBlock∧(el h 0::h').Perm h∧Hp h'.length h'∧h'.length=n:=by
 obtain⟨ad,cap,hv⟩:=K.form;obtain⟨n1,hn1⟩:∃n1,h.length=n1:=⟨_,rfl⟩;rw[hn1]at hv hl;subst hv;have HN1:Hid (h.length=n1):=hn1;have HN:Hid (h.length=n+1):=hn;have hn2:n1=n+1:=by omega
 have HK:Hid (KAt B w p room (.slice ad n1 cap) h):=K;have HH:Hid (Hp (n+1) h):=by show Hp _ _;rw[←hn];exact H
 have hml:=zQl w p ad n1 cap K.c1;have hms:=zHx w p ad n1 cap K.c1;have hsub:IntKind.i64.wrap ((n1:Int)-1)=(n:Int):=by rw[IntKind.wrap_i64];omega
 have hsub2:(n1:Int)-1=(n:Int):=by omega
 have HSW:Hid (Calls Tryz.prog 221 #[.slice ad n1 cap,.int .i64 0,.int .i64 n] w fun e w'=>e = .returned (.tuple #[])∧GOwn 74 3 B w' (.slice ad n1 cap) ((swp h 0 n).map cellsM)∧Upd (fun j=>(Value.slice ad n1 cap).ownBlock=some j) w w'):=zLh B w _ h K.row 0 n (by omega) (by omega) (by omega);clear K H hn hn1 hn2;unfold zGd;go_enter Tryz.func161,Tryz.ntmps161
 go_upto_region 3 with(first
  |(go_at_call 160;refine(zLj w ad n1 cap).mono ?_;rintro e w2 ⟨rfl,hw2⟩;replace hw2:=hw2.symm;subst hw2)
  |(go_at_call 221;refine HSW.out.mono ?_;rintro e w1 ⟨rfl,hg1,hu1⟩))
 have HK1:Hid (KAt B w1 p room (.slice ad n1 cap) (swp h 0 n)):=HK.out.swapped hg1 hu1;have HU1:Hid (Upd (KF p (.slice ad n1 cap)) w w1):=hu1.mono (fun _ e => .inr e);have HDN:Hid (Calls Tryz.prog 179 #[.iface 199 (.pointer (some ⟨p,1,none⟩)),.int .i64 0,.int .i64 n] w1 fun e w'=>(∃b,e = .returned (.bool b))∧∃h',KAt B w' p room (.slice ad n1 cap) h'∧Upd (KF p (.slice ad n1 cap)) w1 w'∧h'.Perm (swp h 0 n)∧(∀k,n≤k→el h' k=el (swp h 0 n) k)∧Hp n h'):=down_any B w1 p room _ (swp h 0 n) n HK1.out (DnJ.start HN.out HH.out) (by rw[zF9,HN1.out];omega);clear hg1 hu1 hml hms HSW;go_upto_region 4 with(go_at_call 179;refine HDN.out.mono ?_;rintro e w2 ⟨⟨bb,rfl⟩,h2,hK2,hu2,hp2,hk2,hh2⟩)
 have hl2:h2.length=n+1:=by have:=hp2.length_eq;rw[zF9]at this;have:=HN.out;omega
 have hpp:=popped HN.out hp2 (hk2 n (Nat.le_refl _));have HPO:Hid (Calls Tryz.prog 222 #[.pointer (some ⟨p,1,none⟩)] w2 fun e w'=>e = .returned (.iface 74 (valM (el h 0)))∧∃v',KAt B w' p room v' (h2.take n)∧Upd (KF p (.slice ad n1 cap)) w2 w'∧v'.ownBlock=(Value.slice ad n1 cap).ownBlock):=by
  have:=Ppop_any B w2 p room _ h2 n hK2 hl2 (by have:=HN1.out;have:=HN.out;omega);rw[hpp.2]at this;exact this
 have HE:Hid ((el h 0::h2.take n).Perm h∧Hp (h2.take n).length (h2.take n)∧(h2.take n).length=n):=by
  have e:(h2.take n).length=n:=by rw[List.length_take];omega
  exact⟨hpp.1,by rw[e];exact hh2.take,e⟩
 have HU2:Hid (Upd (KF p (.slice ad n1 cap)) w w2):=HU1.out.trans hu2 (fun _ _ f=>f);have hmp:=meth_pop w2 p;clear hK2 hu2 hp2 hk2 hh2 hl2 hpp HDN HU1 HK1;go_wp2_with (go_at_call 222;refine HPO.out.mono ?_;rintro e w3 ⟨rfl,v3,hK3,hu3,hx3⟩);go_ret;exact⟨rfl,v3,h2.take n,hK3,HU2.out.trans hu3 (fun _ _ f=>f),hx3,HE.out⟩
theorem zLm(B:Nat)(w:World)(p:Nat)(room:Int)(v:Value)(h:List Mt)(K:KAt B w p room v h):Calls Tryz.prog 124 #[.pointer (some ⟨p,0,none⟩)] w fun e w'=>e = .returned (.int .i64 h.length)∧w'=w:=by
 obtain⟨ad,cap,hv⟩:=K.form;subst hv;have c1:=K.c1;generalize h.length=n at *;clear K;go_enter Tryz.func124,Tryz.ntmps124;go_wp2_with (go_at_call 160;refine(zLj w ad n cap).mono ?_;rintro e w2 ⟨rfl,rfl⟩);go_ret;exact⟨rfl,rfl⟩
end Bt
end
section
open Go.RowKit Go.Shelf Go.Lib Go.Sort Pm
theorem zT1{l m:List Pr}{k:Nat}{x y:Pr}(h:l.take k=m.take k)(hx:l[k]?=some x)(hy:m[k]?=some y)(e:x=y):l.take (k+1)=m.take (k+1):=by
 obtain⟨h1,e1⟩:=List.getElem?_eq_some_iff.1 hx;obtain⟨h2,e2⟩:=List.getElem?_eq_some_iff.1 hy;rw[List.take_succ_eq_append_getElem h1,List.take_succ_eq_append_getElem h2,e1,e2,h,e]
theorem zR3(w:World)(u v:Value)(l m:List Pr)(h1:PRow w u l)(h2:PRow w v m)(hl:l.length<549755813888)(hm:m.length<549755813888):
 Calls Tryz.prog 38 #[u,v] w fun e w'=>e = .returned (.bool (decide (l=m)))∧∃q,w'=w.drewN q:=by
 obtain⟨ad1,cap1,rfl⟩:∃ad cap,u = .slice ad l.length cap:=by obtain⟨ad,cap,rfl,_⟩:=h1;exact⟨ad,cap,rfl⟩
 obtain⟨ad2,cap2,rfl⟩:∃ad cap,v = .slice ad m.length cap:=by obtain⟨ad,cap,rfl,_⟩:=h2;exact⟨ad,cap,rfl⟩
 have HR1:Hid (PRow w (.slice ad1 l.length cap1) l):=h1;have HR2:Hid (PRow w (.slice ad2 m.length cap2) m):=h2;obtain⟨F,hF⟩:∃F,decide (l=m)=F:=⟨_,rfl⟩;have HF:Hid (decide (l=m)=F):=hF;obtain⟨n1,hn1⟩:∃n,l.length=n:=⟨_,rfl⟩;obtain⟨n2,hn2⟩:∃n,m.length=n:=⟨_,rfl⟩;have HN:Hid (l.length=n1∧m.length=n2):=⟨hn1,hn2⟩;rw[hn1]at HR1 hl;rw[hn2]at HR2 hm;rw[hn1,hn2,hF];clear h1 h2 hn1 hn2 hF;by_cases hne:n1=n2
 · subst hne
   have hneb:((n1:Int)==(n1:Int))=true:=beq_self_eq_true _;go_enter Tryz.func38,Tryz.ntmps38;go_wp2
   go_loopg [5] n1 (fun g s5 wr=>∃(k q:Nat),s5 = .int .i64 k∧k≤n1∧n1-k≤g∧wr=w.drewN q∧Hid (l.take k=m.take k))
   case atStart=>exact⟨0,0,rfl,Nat.zero_le _,by omega,rfl,by show _=_;simp⟩
   case round=>
    obtain⟨k,q,rfl,hk,hg,hwr,HK⟩:=hrel;by_cases hlt:k<n1
    · have hltz:(k:Int)<(n1:Int):=by omega
      obtain⟨x,hx⟩:∃x,l[k]?=some x:=⟨l[k]'(by have:=HN.out;omega),List.getElem?_eq_getElem _⟩;obtain⟨y,hy⟩:∃y,m[k]?=some y:=⟨m[k]'(by have:=HN.out;omega),List.getElem?_eq_getElem _⟩;obtain⟨b1,off1,rfl,hb1,hc1⟩:=HR1.out.at (by omega);obtain⟨b2,off2,rfl,hb2,hc2⟩:=HR2.out.at (by omega);obtain⟨c0,c1⟩:=hc1 k x hx;obtain⟨d0,d1⟩:=hc2 k y hy;(have c0':wr.cell? ⟨b1,off1+k*2,none⟩=some (.string x.1):=by rw[hwr];exact c0);(have c1':wr.cell? ⟨b1,off1+k*2+1,none⟩=some (.int .i64 x.2):=by rw[hwr];exact c1);(have d0':wr.cell? ⟨b2,off2+k*2,none⟩=some (.string y.1):=by rw[hwr];exact d0);(have d1':wr.cell? ⟨b2,off2+k*2+1,none⟩=some (.int .i64 y.2):=by rw[hwr];exact d1);have HW:Hid (wr=w.drewN q):=hwr;have HX:Hid (l[k]?=some x∧m[k]?=some y):=⟨hx,hy⟩;clear c0 c1 d0 d1 hc1 hc2 hx hy hwr;by_cases e1:x.1=y.1
      · have s1:(x.1.toList==y.1.toList)=true:=by rw[zRv];exact decide_eq_true e1
        by_cases e2:x.2=y.2
        · have s2:(x.2==y.2)=true:=beq_iff_eq.2 e2
          have HK2:Hid (l.take (k+1)=m.take (k+1)):=zT1 HK.out HX.out.1 HX.out.2 (Prod.ext e1 e2);clear e1 e2;go_wp2_with fail;go_quiet (fail);go_wp2_with fail;go_roundg (n1-(k+1));(case measure=>omega);case rel=>exact⟨k+1,q+nq,by go_num,by omega,Nat.le_refl _,by rw[HW.out,World.drewN_drewN],HK2⟩
        · have s2:(x.2==y.2)=false:=beq_eq_false_iff_ne.2 e2
          have HE:Hid (F=false):=by
           show _=_;rw[←HF.out];(refine decide_eq_false fun e=>e2 ?_);have h1:=HX.out.1;rw[e,HX.out.2]at h1;rw[Option.some.inj h1]
          clear e1 e2;go_wp2_with fail;go_quiet (fail);go_wp2_with fail;go_ret;exact⟨by rw[HE.out];rfl,q+nq,by rw[HW.out,World.drewN_drewN]⟩
      · have s1:(x.1.toList==y.1.toList)=false:=by rw[zRv];exact decide_eq_false e1
        have HE:Hid (F=false):=by
         show _=_;rw[←HF.out];(refine decide_eq_false fun e=>e1 ?_);have h1:=HX.out.1;rw[e,HX.out.2]at h1;rw[Option.some.inj h1]
        clear e1;go_wp2_with fail;go_quiet (fail);go_wp2_with fail;go_ret;exact⟨by rw[HE.out];rfl,q+nq,by rw[HW.out,World.drewN_drewN]⟩
    · have hltz:¬(k:Int)<(n1:Int):=by omega
      have HE:Hid (F=true):=by
       show _=_;rw[←HF.out];refine decide_eq_true ?_;have h:=HK.out
       rwa [List.take_of_length_le (by have:=HN.out;omega),List.take_of_length_le (by have:=HN.out;omega)]at h
      go_wp2;go_ret;exact⟨by rw[HE.out];rfl,q,rfl⟩
 · have hneb:((n1:Int)==(n2:Int))=false:=beq_eq_false_iff_ne.2 (by omega)
   have HE:Hid (F=false):=by
    show _=_;rw[←HF.out];(refine decide_eq_false fun e=>hne ?_);rw[←HN.out.1,←HN.out.2,e]
   go_enter Tryz.func38,Tryz.ntmps38;go_wp2;go_ret;exact⟨by rw[HE.out];rfl,0,rfl⟩
end
section
open Go.ChangeShapes Go.WideShapes Go.ChangeAt Go.RowKit Go.Deep
theorem laidOut:laidOutB Tryz.prog=true:=by kernel_rfl
theorem zMf:Tryz.prog.cellsOf 64=2:=by kernel_rfl
theorem strCells:Tryz.prog.cellsOf 9=1:=by kernel_rfl
theorem intCells:Tryz.prog.cellsOf 3=1:=by kernel_rfl
def big{H:Type}(d:DataW H):Nat:=match d with
 |.slice elems spare=>elems.length+spare.length
 |_=>0
theorem zR9{H:Type}{enc:TypeId×Value→H}{W:World}{fuel:Nat}{cs:List Value}{x:DataW H×List MemPlace}
 (h:DataW.trod enc Tryz.prog W 0 (fun _=>true) true fuel 64 cs=some x):∃p:Pr,cs=[.string p.1,.int .i64 p.2]∧p.1.size≤9223372036854775807:=by
 obtain⟨y0,y1,n,_,hl,g0,g1⟩:=trod_struct2 Tryz.underlying64 h;rw[zMf]at hl
 match cs,hl with
 |[v0,v1],_=>
  simp[strCells,intCells]at g0 g1;obtain⟨s,e0,_,w0⟩:=DataW.trod_string Tryz.underlying9 g0;obtain⟨z,e1,_,w1⟩:=DataW.trod_int Tryz.underlying3 g1;simp only[List.cons.injEq,and_true]at e0 e1;subst e0 e1;refine⟨(s,z),rfl,?_⟩;have hw:=w0;unfold maxLen at hw;exact hw
theorem pairs_in{H:Type}{enc:TypeId×Value→H}{W:World}{base:Nat}{v:Value}{d:DataW H}{p:List MemPlace}
 (hok:Value.okWide Tryz.prog W .any base 22 v) (h:DataW.Trod enc Tryz.prog W 0 (fun _=>true) true 22 v d p):∃L:List Pr,PRow W v L∧Sm L∧L.length≤9223372036854775807∧L.length≤big d:=by
 obtain⟨a0,len,cap,rfl⟩:=okWide_slice Tryz.underlying22 hok;obtain⟨fuel,hf⟩:=h;rcases open_slice Tryz.underlying22 hf with⟨hcs,hx⟩|⟨a,len',cap',m,n,D,Pl,hcs,_,hl,hm,hmm,hx,hel⟩
 · simp[Value.cells]at hcs
   obtain⟨rfl,rfl,rfl⟩:=hcs;exact⟨[],PRow.nil W,(fun x hx=>absurd hx List.not_mem_nil),by simp,by simp⟩
 · simp[Value.cells]at hcs
   obtain⟨rfl,rfl,rfl⟩:=hcs;(have hlm:len≤m:=by rw[hmm];split<;>omega);have each:∀i,i<m→∃o:Pr,o.1.size≤9223372036854775807∧W.cell? (a.add (i*2))=some (.string o.1)∧W.cell? (a.add (i*2+1))=some (.int .i64 o.2):=by
    intro i hi;obtain⟨cs',h1,h2⟩:=hel i hi;rw[zMf]at h1;obtain⟨_,hlen,hcell⟩:=World.cells?_some h1;obtain⟨q,rfl,hq⟩:=zR9 h2;have c0:=hcell 0 (by simp);have c1:=hcell 1 (by simp);rw[add_add]at c0 c1;exact⟨q,hq,by simpa using c0,by simpa using c1⟩
   have hch:∃f:Nat→Pr,∀i,i<m→(f i).1.size≤9223372036854775807∧W.cell? (a.add (i*2))=some (.string (f i).1)∧W.cell? (a.add (i*2+1))=some (.int .i64 (f i).2):=
    ⟨fun i=>if hi:i<m then Classical.choose (each i hi)else (ByteArray.empty,0),fun i hi=>by
     simp only[dif_pos hi];exact Classical.choose_spec (each i hi)⟩
   obtain⟨f,hfe⟩:=hch;have hget:∀i o,((List.range len).map f)[i]?=some o→i<len∧o=f i:=fun i o hi=>by
    rw[List.getElem?_map]at hi;have hil:i<len:=by
     cases hr:(List.range len)[i]? with
     |none=>rw[hr]at hi;cases hi
     |some j=>have:=(List.getElem?_eq_some_iff.1 hr).1;simpa using this
    rw[List.getElem?_range hil]at hi;simp only[Option.map_some,Option.some.injEq]at hi;exact⟨hil,hi.symm⟩
   refine⟨(List.range len).map f,⟨some a,cap,by simp,fun h0=>?_⟩,?_,by unfold maxLen at hm;simp;omega,?_⟩
   · have h0':0<len:=by simpa using h0
     obtain⟨b,off,rfl⟩:∃b off,a=⟨b,off,none⟩:=by
      obtain⟨_,c0,_⟩:=hfe 0 (by omega);obtain⟨b,off,sp⟩:=a;cases sp with
      |none=>exact⟨b,off,rfl⟩
      |some s=>exfalso;revert c0;unfold Addr.add World.cell?;split<;>simp
     (have hadd:∀j,(⟨b,off,none⟩:Addr).add j=⟨b,off+j,none⟩:=fun j=>by unfold Addr.add;split<;>simp_all);refine⟨b,off,rfl,?_,fun i o hi=>?_⟩
     · obtain⟨_,c0,_⟩:=hfe 0 (by omega)
       rw[hadd]at c0;exact zAp c0
     · obtain⟨hil,rfl⟩:=hget i o hi
       obtain⟨q1,c0,c1⟩:=hfe i (by omega);rw[hadd]at c0 c1;exact⟨c0,by simpa[Nat.add_assoc]using c1⟩
   · intro x hx
     obtain⟨i,hi⟩:=List.mem_iff_getElem?.1 hx;obtain⟨hil,rfl⟩:=hget i x hi;exact(hfe i (by omega)).1
   · simp only[Prod.mk.injEq]at hx
     obtain⟨rfl,_⟩:=hx;simp[big]
end
