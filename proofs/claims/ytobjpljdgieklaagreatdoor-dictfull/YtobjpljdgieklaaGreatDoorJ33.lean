import Derived.Test.YtobjpljdgieklaaGreatDoorJ30
import Derived.Test.YtobjpljdgieklaaGreatDoorJ22
import Derived.Test.YtobjpljdgieklaaGreatDoorJ11
import Derived.Test.YtobjpljdgieklaaGreatDoorJ25
import Derived.Shelf.Lay
import Derived.Ground.SlsfProg
import Derived.Test.YtobjpljdgieklaaGreatDoorJ5
import Derived.Deep.QuietTactic
import Derived.BigQuiet
import Derived.Laws.StructEq
set_option maxRecDepth 100000
namespace Go.Proofs.YtobjpljdgieklaaGreatDoor
section
open Go.RowKit Go.Shelf Nums Fm Pk
set_option maxRecDepth 1000000
shelf_lay_g SlLaysE0.n41 Slgn 41 at Tryz 107 as cloneAr
theorem zTj(l:List RArc):∀x∈l.map zBh,zG7 3 x:=fun x hx=>by
 obtain⟨a,_,rfl⟩:=List.mem_map.1 hx;exact⟨rfl,by simp[zBh,Value.oneCell']⟩
theorem zS8(E:Nat)(w:World)(l:List RArc)(va:Value)(h:ArcsAt E w va l)(hm:l.length≤1114112):
 Calls Tryz.prog 107 #[va] w fun e w'=>∃v',e = .returned v'∧(∃ad cap,v' = .slice ad l.length cap)∧ArcsAt w'.heap.size w' v' l∧(∀g,v'.ownBlock=some g→w.heap.size≤g∧g<w'.heap.size)∧Below w.heap.size w w':=by
 by_cases h0:l=[]
 · subst h0
   obtain⟨ad,cap,rfl⟩:=h.shape;(have hA:∀w' ad cap,ArcsAt w'.heap.size w' (.slice ad 0 cap) []:=fun w' ad cap=>⟨⟨ad,cap,rfl,fun h=>absurd h (by simp)⟩,fun a ha=>(by cases ha),(by simp)⟩);clear h;have HA:Hid (∀w' ad cap,ArcsAt w'.heap.size w' (.slice ad 0 cap) []):=hA;(have HB:Hid (∀o,Below w.heap.size w (w.alloc o)):=fun o=>(Below.refl _ w).alloc (Nat.le_refl _) o);clear hA;(have heq:∀W,(binOp .eql 89 (.slice ad 0 cap) (.slice none 0 0)).run Tryz.prog W = .ok (.bool ad.isNone) W:=fun W=>Lib.run_eql_slice_nil W _ _ ad 0 cap 0 0 rtyA.und);cases ad with
   |none=>
    go_enter Tryz.func107,Tryz.ntmps107;simp only[Option.isNone_none]at heq;go_wp2;go_ret;exact⟨_,rfl,⟨_,_,rfl⟩,HA.out _ _ _,fun g hg=>(by cases hg),Below.refl _ _⟩
   |some p=>
    go_enter Tryz.func107,Tryz.ntmps107;simp only[Option.isNone_some]at heq;go_wp2;go_ret;exact⟨_,rfl,⟨_,_,rfl⟩,HA.out _ _ _,fun g hg=>(by cases hg;exact⟨Nat.le_refl _,by simp⟩),HB.out _⟩
 · obtain⟨z,hz,hzs⟩:=rtyA.inf
   obtain⟨i,hi,hz0,hz1,hz2⟩:=info_parts hz;(have hsz:∀w,(Go.sizeOf 126).run Tryz.prog w = .ok 3 w:=fun w=>by simp[sizeOf,typeInfo,hi,hz1,Result.andThen]);have hcl:=zTj l;(have hl3:∀x∈l.map zBh,x.length=3:=fun x hx=>(hcl x hx).1);have hpos:=List.length_pos_iff.2 h0;obtain⟨ad,cap,rfl,hc⟩:=h.row.ex;obtain⟨g,off,rfl,hg,hx⟩:=hc (by rw[List.length_map];exact hpos);have hcell:∀(j:Nat) u,(l.map zBh).flatten[j]?=some u→w.cell? ⟨g,off+j,none⟩=some u:=fun j u hj=>by
    obtain⟨i,c,x,rfl,h1,h2⟩:=zOz (l.map zBh) hl3 j u hj;have:=hx i c x u h1 h2
    rwa [Nat.add_assoc]at this
   have hone:∀u∈(l.map zBh).flatten,u.oneCell'=true:=fun u hu=>by
    obtain⟨x,hx,hux⟩:=List.mem_flatten.1 hu;exact(hcl x hx).2 u hux
   have hlen:(l.map zBh).length=l.length:=List.length_map _
   have hcall:Calls Tryz.prog 107 #[.slice (some ⟨g,off,none⟩) (l.map zBh).length cap] w fun e w'=>∃v',e = .returned v'∧w'.ownsRow w.heap.size 126 3 v' (l.map zBh).length (l.map zBh).flatten∧v' ≠ .slice none 0 0∧Below w.heap.size w w':=
    AnyE.slices_Clone cloneAr i z 3 24 hi hz0 hz1 hz2 hzs (by decide) hsz g off (l.map zBh).length cap (l.map zBh).flatten w (zId _ hl3) (by unfold maxLen;omega) (by omega) hcell hone
   refine hcall.mono ?_;rintro e w' ⟨v',rfl,ho,hne,hb⟩;have hO:GOwn 126 3 w.heap.size w' v' (l.map zBh):=⟨hcl,ho⟩;obtain⟨ad',cap',hv,_⟩:=hO.shape;rw[hlen]at hv;exact⟨v',rfl,⟨ad',cap',hv⟩,⟨hO.reads,h.ok,h.len⟩,fun g hg=>⟨(hO.block hg).1,hO.lt hg⟩,hb⟩
theorem ArcsAt.upd{F:Nat→Prop}{E:Nat}{w w':World}{v:Value}{l:List RArc}(h:ArcsAt E w v l)(hu:Upd F w w')(hE:E≤w.heap.size)(hF:∀g,v.ownBlock=some g→¬F g):ArcsAt w'.heap.size w' v l:=by
 obtain⟨ad,cap,rfl,hc⟩:=h.row.ex;refine⟨⟨ad,cap,rfl,fun h0=>?_⟩,h.ok,h.len⟩;obtain⟨g,off,rfl,hg,hx⟩:=hc h0;have hl:=hu.size;exact⟨g,off,rfl,by omega,fun i j x u hi hj=>(World.cell?_of_block (a:=⟨g,off+i*3+j,none⟩) (hu.block g (by omega) (hF g rfl))).trans (hx i j x u hi hj)⟩
theorem zBn{F:Nat→Prop}{w W:World}(h:Upd F w W){b o:Nat}(x:Value)(hb:F b):Upd F w (W.setCell ⟨b,o,none⟩ x):=by
 obtain⟨h1,h2,h3,h4⟩:=zBp W b o x;exact⟨h1.trans h.os,h2.trans h.tape,h3.trans h.output,by rw[h4];exact h.size,fun k hk hF=>(Below.heap_setCell W ⟨b,o,none⟩ x k (fun e=>hF (e▸hb))).trans (h.block k hk hF)⟩
theorem zS9{tmps:Array Value}{w:World}{qb:Nat}{a b c:Value}(h2:tmps.getD 2 undef = .pointer (some ⟨qb,0,none⟩))(c0:w.cell? ⟨qb,0,none⟩=some a)(c1:w.cell? ⟨qb,1,none⟩=some b)(c2:w.cell? ⟨qb,2,none⟩=some c):(results Tryz.f67 tmps).run Tryz.prog w = .ok (.agg #[a,b,c]) w:=by
 have h2':tmps[2]?.getD undef = .pointer (some ⟨qb,0,none⟩):=by simpa using h2
 simp[results,Tryz.results67,go_sem,h2',c0,c1,c2]
set_option maxHeartbeats 2000000 in
theorem zJ3(E:Nat)(w:World)(s:RSt)(va:Value)(h:ArcsAt E w va s.arcs)(hE:E≤w.heap.size)(hm:s.arcs.length≤1114112):
 Calls Tryz.prog 67 #[.agg #[.bool s.final,.int .i64 s.out,va]] w fun e w'=>∃v',e = .returned (.agg #[.bool s.final,.int .i64 s.out,v'])∧(∃ad cap,v' = .slice ad s.arcs.length cap)∧ArcsAt w'.heap.size w' v' s.arcs∧(∀g,v'.ownBlock=some g→w.heap.size≤g∧g<w'.heap.size)∧Below w.heap.size w w':=by
 obtain⟨ad,cap,hva⟩:=h.shape;obtain⟨n,hn⟩:∃n,s.arcs.length=n:=⟨_,rfl⟩;rw[hn]at hva;subst hva;obtain⟨W1,hW1⟩:∃W1,W1=(w.alloc (.cells #[.bool s.final,.int .i64 s.out,.slice ad n cap] 91)).alloc (.cells #[.bool false,.int .i64 0,.slice none 0 0] 91):=⟨_,rfl⟩;have hb1:Below w.heap.size w W1:=by rw[hW1];exact((Below.refl _ w).alloc (Nat.le_refl _) _).alloc (by simp) _
 have hs1:W1.heap.size=w.heap.size+2:=by rw[hW1];simp
 obtain⟨sb,hsb⟩:∃sb,sb=w.heap.size:=⟨_,rfl⟩;obtain⟨rb,hrb⟩:∃rb,rb=w.heap.size+1:=⟨_,rfl⟩;have hn1:W1.heap[sb]?=some (.cells #[.bool s.final,.int .i64 s.out,.slice ad n cap] 91):=by
  rw[hW1,hsb,(MapKept.heap_alloc _ _).2 _ (by simp)];exact zAb _ _
 have hr1:W1.heap[rb]?=some (.cells #[.bool false,.int .i64 0,.slice none 0 0] 91):=by
  have e:rb=(w.alloc (.cells #[.bool s.final,.int .i64 s.out,.slice ad n cap] 91)).heap.size:=by rw[hrb];simp
  rw[hW1,e];exact zAb _ _
 have HC:Hid (Calls Tryz.prog 107 #[.slice ad n cap] W1 fun e w'=>∃v',e = .returned v'∧(∃ad cap,v' = .slice ad s.arcs.length cap)∧ArcsAt w'.heap.size w' v' s.arcs∧(∀g,v'.ownBlock=some g→W1.heap.size≤g∧g<w'.heap.size)∧Below W1.heap.size W1 w'):=zS8 E W1 s.arcs _ (h.below (hb1.mono hE)) hm;have c2:W1.cell? ⟨sb,2,none⟩=some (.slice ad n cap):=by simp[World.cell?,hn1]
 have HF:Hid (∀(w2:World) (x:Value),Below W1.heap.size W1 w2→w2.heap[sb]?=some (.cells #[.bool s.final,.int .i64 s.out,.slice ad n cap] 91)∧w2.heap[rb]?=some (.cells #[.bool false,.int .i64 0,.slice none 0 0] 91)):=fun w2 x hb=>⟨(hb.block sb (by omega)).trans hn1,(hb.block rb (by omega)).trans hr1⟩
 have HB1:Hid (Below w.heap.size w W1):=hb1;have HSZ:Hid (W1.heap.size=w.heap.size+2∧sb=w.heap.size∧rb=w.heap.size+1):=⟨hs1,hsb,hrb⟩;have hsr:sb≠rb:=by omega
 clear h hb1 hn1 hr1 hs1;go_enter Tryz.func67,Tryz.ntmps67;go_upto_region 1 with fail
 rw[←hrb,←hsb,←hW1];clear hsb hrb hW1;go_wp2_with (go_at_call 107;refine HC.out.mono ?_;rintro e w2 ⟨v',rfl,⟨ad2,cap2,rfl⟩,hA2,hg2,hb2⟩;obtain⟨k1,k2⟩:=HF.out w2 (.slice none 0 0) hb2;have z1:w2.cell? ⟨sb,0,none⟩=some (.bool s.final):=(by simp[World.cell?,k1]);have z2:w2.cell? ⟨sb,1,none⟩=some (.int .i64 s.out):=(by simp[World.cell?,k1]);have z3:w2.cell? ⟨sb,2,none⟩=some (.slice ad n cap):=(by simp[World.cell?,k1]);have y1:w2.cell? ⟨rb,0,none⟩=some (.bool false):=(by simp[World.cell?,k2]);have y2:w2.cell? ⟨rb,1,none⟩=some (.int .i64 0):=(by simp[World.cell?,k2]);have y3:w2.cell? ⟨rb,2,none⟩=some (.slice none 0 0):=(by simp[World.cell?,k2]);have f1:w2.frozen? ⟨sb,2,none⟩=false:=(by simp[World.frozen?,k1]);have f2:∀o,w2.frozen? ⟨rb,o,none⟩=false:=(fun o=>by simp[World.frozen?,k2]));obtain⟨W6,hW6⟩:∃W6,W6=(((w2.setCell ⟨sb,2,none⟩ (.slice ad2 n cap2)).setCell ⟨rb,0,none⟩ (.bool s.final)).setCell ⟨rb,1,none⟩ (.int .i64 s.out)).setCell ⟨rb,2,none⟩ (.slice ad2 n cap2):=⟨_,rfl⟩;have hu:Upd (fun j=>j=sb∨j=rb) w2 W6:=by
  rw[hW6];exact zBn (zBn (zBn (zBn (Upd.refl _ _) _ (.inl rfl)) _ (.inr rfl)) _ (.inr rfl)) _ (.inr rfl)
 have hr6:W6.heap[rb]?=some (.cells #[.bool s.final,.int .i64 s.out,.slice ad2 n cap2] 91):=by
  have e0:(w2.setCell ⟨sb,2,none⟩ (.slice ad2 n cap2)).heap[rb]?=some (.cells #[.bool false,.int .i64 0,.slice none 0 0] 91):=(Below.heap_setCell w2 ⟨sb,2,none⟩ _ rb (fun e=>hsr e.symm)).trans k2;rw[hW6,zAx (zAx (zAx e0 _) _) _];rfl
 rw[←hW6];obtain⟨hz1,hz2,hz3⟩:=HSZ.out;refine bodyPost_ret (zS9 (a := .bool s.final) (b := .int .i64 s.out) (c := .slice ad2 n cap2) rfl (by simp[World.cell?,hr6]) (by simp[World.cell?,hr6]) (by simp[World.cell?,hr6])) rfl ?_;refine⟨_,rfl,⟨_,_,by rw[hn]⟩,?_,fun g hg=>?_,?_⟩
 · rw[hn]at hA2 hg2
   exact hA2.upd hu (Nat.le_refl _) (fun g hg e=>by have:=(hg2 g hg).1;rcases e with e|e<;>omega)
 · rw[hn]at hg2
   have h1:=hg2 g hg;have h2:=hu.size;omega
 · have h1:Below w.heap.size w w2:=HB1.out.trans (hb2.mono HB1.out.size)
   exact h1.trans (hu.below h1.size (fun j e=>by rcases e with e|e<;>omega))
structure CtAt(E:Nat)(w wr:World)(vw:Value)(cs:List Nat):Prop where
 own:GOwn 3 1 w.heap.size wr vw (cs.map zDz)
 bel:Below w.heap.size w wr
theorem CtAt.below{E:Nat}{w wr w':World}{vw:Value}{cs:List Nat}(h:CtAt E w wr vw cs)(hb:Below wr.heap.size wr w'):CtAt E w w' vw cs:=⟨h.own.below hb,h.bel.trans (hb.mono h.bel.size)⟩
def cnt(D:List (List En))(s:St)(j:Nat):Nat:=(if s.final then 1 else 0)+((s.arcs.take j).map fun a=>(D[a.to]?.getD []).length).sum
theorem zRk{D:List (List En)}{s:St}{j:Nat}{a:Arc}{R:List En}(ha:s.arcs[j]?=some a)(hR:D[a.to]?=some R):cnt D s (j+1)=cnt D s j+R.length:=by
 unfold cnt;rw[List.take_add_one,ha,Option.toList_some,List.map_append,List.sum_append];simp[hR];omega
theorem cnt_le{D:List (List En)}{s:St}(j:Nat):cnt D s j≤(exp D s).length:=by
 rw[zIh];unfold cnt;have:∀(l:List Nat) (j:Nat),(l.take j).sum≤l.sum:=fun l=>by
  induction l with
  |nil=>intro j;simp
  |cons x r ih=>
   intro j;cases j with
   |zero=>simp
   |succ j=>simp only[List.take_succ_cons,List.sum_cons];have:=ih j;omega
 have h2:=this (s.arcs.map fun a=>(D[a.to]?.getD []).length) j;rw[←List.map_take]at h2;omega
set_option maxHeartbeats 4000000 in
theorem zPb(E:Nat)(w:World)(b:List St)(D:List (List En))(hI:Inv D b)(hR:∀R∈D,R.length≤4096)(vs:Value)(h:StsAt E w vs (b.map ofSt))(hE:E≤w.heap.size)(hfew:b.length≤1048576):
 Calls Tryz.prog 68 #[vs] w fun e w'=>∃vw,e = .returned vw∧CtAt E w w' vw (D.map List.length):=by
 obtain⟨ad,cap,rfl⟩:=h.shape;obtain⟨nb,hnb⟩:∃nb,b.length=nb:=⟨_,rfl⟩;have HNB:Hid (b.length=nb):=hnb;have hlm:(b.map ofSt).length=nb:=by rw[List.length_map,hnb]
 have HR:Hid (StsAt E w (.slice ad nb cap) (b.map ofSt)):=by have:=h;rw[hlm]at this;exact this
 have hl:=h.len;obtain⟨cs,hcs⟩:∃cs,D.map List.length=cs:=⟨_,rfl⟩;have HCS:Hid (cs=D.map List.length):=hcs.symm;rw[hlm]at hl ⊢;rw[hcs];clear h hnb hlm hcs;go_enter Tryz.func68,Tryz.ntmps68;go_wp2
 go_loopg [3,5,6,8,11] nb (fun gm s3 _ _ _ s11 wr=>∃(k:Nat) (wd:Option Addr) (nw wc:Nat),s11 = .int .i64 k∧s3 = .slice wd nw wc∧k≤nb∧nb-k≤gm∧Hid (CtAt E w wr (.slice wd nw wc) (cs.take k)))
 case atStart=>exact⟨0,none,0,0,rfl,rfl,Nat.zero_le _,by omega,⟨GOwn.nil _ _ _ _,Below.refl _ _⟩⟩
 case round=>
  obtain⟨k,wd,nw,wc,rfl,rfl,hk,hgm,HCT0⟩:=hrel;by_cases hlt:k<nb
  · have hltz:(k:Int)<(nb:Int):=by omega
    obtain⟨s,hs⟩:∃s,b[k]?=some s:=⟨b[k]'(by have:=HNB.out;omega),List.getElem?_eq_getElem _⟩;have HBN:Hid (b[k]?=some s):=hs;obtain⟨g,off,va,hgd,hg,x0,x1,x2,hA⟩:=HR.out.at (k:=k) (s:=ofSt s) (by rw[List.getElem?_map,hs];rfl);obtain⟨vd,vc,hva⟩:=hA.shape;obtain⟨na,hna⟩:∃na,s.arcs.length=na:=⟨_,rfl⟩;have HNA:Hid (s.arcs.length=na):=hna;(have hna2:(ofSt s).arcs.length=na:=by show(s.arcs.map zAs).length=na;rw[List.length_map,hna]);rw[hna2]at hva;subst hva;subst hgd;have HAA:Hid (ArcsAt E w (.slice vd na vc) (s.arcs.map zAs)):=hA;have hal:=hA.len;rw[hna2]at hal;have hbl:=HCT0.out.bel;have u0:wr.cell? ⟨g,off+k*3,none⟩=some (.bool s.final):=(hbl.cell (p:=⟨g,off+k*3,none⟩) (Nat.lt_of_lt_of_le hg hE)).trans x0;have u1:wr.cell? ⟨g,off+k*3+1,none⟩=some (.int .i64 s.out):=(hbl.cell (p:=⟨g,off+k*3+1,none⟩) (Nat.lt_of_lt_of_le hg hE)).trans x1;have u2:wr.cell? ⟨g,off+k*3+2,none⟩=some (.slice vd na vc):=(hbl.cell (p:=⟨g,off+k*3+2,none⟩) (Nat.lt_of_lt_of_le hg hE)).trans x2;obtain⟨sb,hsb⟩:∃sb,sb=wr.heap.size:=⟨_,rfl⟩;obtain⟨W1,hW1⟩:∃W1,W1=wr.alloc (.cells #[.bool s.final,.int .i64 s.out,.slice vd na vc] 91):=⟨_,rfl⟩;(have hb1:Below wr.heap.size wr W1:=by rw[hW1];exact(Below.refl _ wr).alloc (Nat.le_refl _) _);(have hn1:W1.heap[sb]?=some (.cells #[.bool s.final,.int .i64 s.out,.slice vd na vc] 91):=by rw[hW1,hsb];exact zAb _ _);have HSB:Hid (∀wz,Below W1.heap.size W1 wz→wz.cell? ⟨sb,0,none⟩=some (.bool s.final)∧wz.cell? ⟨sb,1,none⟩=some (.int .i64 s.out)∧wz.cell? ⟨sb,2,none⟩=some (.slice vd na vc)):=fun wz hz=>by
     have h1:=(hz.block sb (Array.getElem?_eq_some_iff.1 hn1).1).trans hn1;exact⟨by simp[World.cell?,h1],by simp[World.cell?,h1],by simp[World.cell?,h1]⟩
    have HCT:Hid (CtAt E w W1 (.slice wd nw wc) (cs.take k)):=HCT0.out.below hb1;have HBW:Hid (Below w.heap.size w W1):=HCT.out.bel;obtain⟨sc0,sc1,sc2⟩:=HSB.out W1 (Below.refl _ _);clear hb1 hn1 hs x0 x1 x2 hA hna hna2 hbl;(go_upto_region 5 with fail);rw[←hsb,←hW1];clear hsb hW1 u0 u1 u2;cases hfin:s.final with
    |false=>
     rw[hfin]at sc0;(have HC0:Hid (cnt D s 0=0):=by show _=_;unfold cnt;rw[hfin];rfl);go_wp2
     go_loopg [6,8,20] na (fun gm s6 _ s20 wr=>∃(j:Nat),s20 = .int .i64 j∧s6 = .int .i64 ((cnt D s j:Nat):Int)∧j≤na∧na-j≤gm∧Hid (CtAt E w wr (.slice wd nw wc) (cs.take k))∧Hid (Below W1.heap.size W1 wr))
     case atStart=>exact⟨0,by go_num,by first|(rw[HC0.out];rfl)|(rw[HC0.out];go_num),Nat.zero_le _,by omega,HCT,Below.refl _ _⟩
     case round=>
      obtain⟨j,rfl,rfl,hj,hgj,HCZ,HBZ⟩:=hrel;clear sc0 sc1 sc2;obtain⟨sc0,sc1,sc2⟩:=HSB.out wr HBZ.out;have hc4:cnt D s j≤4096:=Nat.le_trans (cnt_le j) (hR _ (List.mem_of_getElem? (hI.row k s HBN.out).1));by_cases hjl:j<na
      · have hjz:(j:Int)<(na:Int):=by omega
        obtain⟨a,ha⟩:∃a,s.arcs[j]?=some a:=⟨s.arcs[j]'(by have:=HNA.out;omega),List.getElem?_eq_getElem _⟩;have hat:=(hI.row k s HBN.out).2.1 a (List.mem_of_getElem? ha);obtain⟨R1,hR1⟩:∃R1,D[a.to]?=some R1:=⟨D[a.to]'(by have:=hI.len;have:=HNB.out;omega),List.getElem?_eq_getElem _⟩;have hR4:R1.length≤4096:=hR _ (List.mem_of_getElem? hR1);obtain⟨ga,oa,hva,hga,x0,x1,x2⟩:=((HAA.out.below (HBW.out.mono hE)).below (HBZ.out.mono (Nat.le_trans hE HBW.out.size))).at (k:=j) (a:=zAs a) (by rw[List.getElem?_map,ha];rfl);have d0:wr.cell? ⟨ga,oa+j*3,none⟩=some (.int .i32 a.label):=x0;have d1:wr.cell? ⟨ga,oa+j*3+1,none⟩=some (.int .i64 a.out):=x1;have d2:wr.cell? ⟨ga,oa+j*3+2,none⟩=some (.int .i64 (a.to:Int)):=x2;subst hva;clear x0 x1 x2;obtain⟨ab,hab⟩:∃ab,ab=wr.heap.size:=⟨_,rfl⟩;obtain⟨W6,hW6⟩:∃W6,W6=wr.alloc (.cells #[.int .i32 a.label,.int .i64 a.out,.int .i64 (a.to:Int)] 126):=⟨_,rfl⟩;(have hb6:Below wr.heap.size wr W6:=by rw[hW6];exact(Below.refl _ wr).alloc (Nat.le_refl _) _);(have hn6:W6.heap[ab]?=some (.cells #[.int .i32 a.label,.int .i64 a.out,.int .i64 (a.to:Int)] 126):=by rw[hW6,hab];exact zAb _ _);have HC6:Hid (CtAt E w W6 (.slice wd nw wc) (cs.take k)):=HCZ.out.below hb6;have HB6:Hid (Below W1.heap.size W1 W6):=HBZ.out.trans (hb6.mono HBZ.out.size);obtain⟨gw,ow,hwd,hgw,cw⟩:=HC6.out.own.reads.num (k:=a.to) (c:=R1.length) (by rw[List.getElem?_take_of_lt hat,HCS.out,List.getElem?_map,hR1];rfl);have hnw:nw=k:=by
         obtain⟨_,_,e,_⟩:=HC6.out.own.shape;simp only[Value.slice.injEq,List.length_map,List.length_take]at e;have h1:=hI.len;have h2:=HNB.out;(have h3:cs.length=D.length:=by rw[HCS.out,List.length_map]);omega
        (have htz:(a.to:Int)<(nw:Int):=by omega);(have ka2:W6.cell? ⟨ab,2,none⟩=some (.int .i64 (a.to:Int)):=by simp[World.cell?,hn6]);(have HCN:Hid (((cnt D s j:Nat):Int)+((R1.length:Nat):Int)=((cnt D s (j+1):Nat):Int)):=by show _=_;rw[zRk ha hR1];omega);obtain⟨cj,hcj⟩:∃cj,cnt D s j=cj:=⟨_,rfl⟩;rw[hcj]at HCN hc4 ⊢;subst hwd;clear hb6 hn6 hgw hga hnw;(go_upto_region 11 with fail);rw[←hab,←hW6];clear hab hW6 d0 d1 d2 sc0 sc1 sc2;go_wp2;go_roundg (na-(j+1));(case measure=>omega);case rel=>exact⟨j+1,by go_num,by rw[HCN.out],by omega,Nat.le_refl _,HC6,HB6⟩
      · have hjn:j=na:=by omega
        subst hjn;(have hjz:¬(j:Int)<(j:Int):=by omega);have HO:Hid (GOwn 3 1 w.heap.size wr (.slice wd nw wc) ((cs.take k).map zDz)):=HCZ.out.own;obtain⟨cj,hcj⟩:∃cj,cnt D s j=cj:=⟨_,rfl⟩;have HCK:Hid (cs.take (k+1)=cs.take k++[cj]):=by
         show _=_;have e1:D[k]?=some (exp D s):=(hI.row k s HBN.out).1;have e2:cs[k]?=some cj:=by
          rw[HCS.out,List.getElem?_map,e1,←hcj];show some (exp D s).length=_;rw[zIh];unfold cnt;rw[←HNA.out,List.take_length]
         rw[List.take_add_one,e2];rfl
        have HLK:Hid (((cs.take k).map zDz).length<1099511627776):=by
         show _<_;rw[List.length_map,List.length_take];have:=HNB.out;omega
        have HBZ2:Hid (Below w.heap.size w wr):=HCZ.out.bel;rw[hcj]at hc4 ⊢;clear hcj;go_wp2_with (at_builtin;refine zEz rtyN (by rfl) _ _ [.int .i64 (cj:Int)] _ rfl w.heap.size _ _ _ _ rfl HO.out rfl rfl ⟨rfl,by simp[Value.oneCell']⟩ HLK.out HBZ2.out.size ?_;intro v7 w7 ho7 hb7 hg7;obtain⟨a7,n7,c7,hv7⟩:∃a n c,v7=Value.slice a n c:=(by obtain⟨a,c,e,_⟩:=ho7.shape;exact⟨_,_,_,e⟩);subst hv7);go_roundg (nb-(k+1));(case measure=>omega);case rel=>exact⟨k+1,_,_,_,by go_num,rfl,by omega,Nat.le_refl _,⟨by rw[HCK.out,List.map_append];exact ho7,HBZ2.out.trans hb7⟩⟩
    |true=>
     rw[hfin]at sc0;(have HC0:Hid (cnt D s 0=1):=by show _=_;unfold cnt;rw[hfin];rfl);go_wp2
     go_loopg [6,8,20] na (fun gm s6 _ s20 wr=>∃(j:Nat),s20 = .int .i64 j∧s6 = .int .i64 ((cnt D s j:Nat):Int)∧j≤na∧na-j≤gm∧Hid (CtAt E w wr (.slice wd nw wc) (cs.take k))∧Hid (Below W1.heap.size W1 wr))
     case atStart=>exact⟨0,by go_num,by first|(rw[HC0.out];rfl)|(rw[HC0.out];go_num),Nat.zero_le _,by omega,HCT,Below.refl _ _⟩
     case round=>
      obtain⟨j,rfl,rfl,hj,hgj,HCZ,HBZ⟩:=hrel;clear sc0 sc1 sc2;obtain⟨sc0,sc1,sc2⟩:=HSB.out wr HBZ.out;have hc4:cnt D s j≤4096:=Nat.le_trans (cnt_le j) (hR _ (List.mem_of_getElem? (hI.row k s HBN.out).1));by_cases hjl:j<na
      · have hjz:(j:Int)<(na:Int):=by omega
        obtain⟨a,ha⟩:∃a,s.arcs[j]?=some a:=⟨s.arcs[j]'(by have:=HNA.out;omega),List.getElem?_eq_getElem _⟩;have hat:=(hI.row k s HBN.out).2.1 a (List.mem_of_getElem? ha);obtain⟨R1,hR1⟩:∃R1,D[a.to]?=some R1:=⟨D[a.to]'(by have:=hI.len;have:=HNB.out;omega),List.getElem?_eq_getElem _⟩;have hR4:R1.length≤4096:=hR _ (List.mem_of_getElem? hR1);obtain⟨ga,oa,hva,hga,x0,x1,x2⟩:=((HAA.out.below (HBW.out.mono hE)).below (HBZ.out.mono (Nat.le_trans hE HBW.out.size))).at (k:=j) (a:=zAs a) (by rw[List.getElem?_map,ha];rfl);have d0:wr.cell? ⟨ga,oa+j*3,none⟩=some (.int .i32 a.label):=x0;have d1:wr.cell? ⟨ga,oa+j*3+1,none⟩=some (.int .i64 a.out):=x1;have d2:wr.cell? ⟨ga,oa+j*3+2,none⟩=some (.int .i64 (a.to:Int)):=x2;subst hva;clear x0 x1 x2;obtain⟨ab,hab⟩:∃ab,ab=wr.heap.size:=⟨_,rfl⟩;obtain⟨W6,hW6⟩:∃W6,W6=wr.alloc (.cells #[.int .i32 a.label,.int .i64 a.out,.int .i64 (a.to:Int)] 126):=⟨_,rfl⟩;(have hb6:Below wr.heap.size wr W6:=by rw[hW6];exact(Below.refl _ wr).alloc (Nat.le_refl _) _);(have hn6:W6.heap[ab]?=some (.cells #[.int .i32 a.label,.int .i64 a.out,.int .i64 (a.to:Int)] 126):=by rw[hW6,hab];exact zAb _ _);have HC6:Hid (CtAt E w W6 (.slice wd nw wc) (cs.take k)):=HCZ.out.below hb6;have HB6:Hid (Below W1.heap.size W1 W6):=HBZ.out.trans (hb6.mono HBZ.out.size);obtain⟨gw,ow,hwd,hgw,cw⟩:=HC6.out.own.reads.num (k:=a.to) (c:=R1.length) (by rw[List.getElem?_take_of_lt hat,HCS.out,List.getElem?_map,hR1];rfl);have hnw:nw=k:=by
         obtain⟨_,_,e,_⟩:=HC6.out.own.shape;simp only[Value.slice.injEq,List.length_map,List.length_take]at e;have h1:=hI.len;have h2:=HNB.out;(have h3:cs.length=D.length:=by rw[HCS.out,List.length_map]);omega
        (have htz:(a.to:Int)<(nw:Int):=by omega);(have ka2:W6.cell? ⟨ab,2,none⟩=some (.int .i64 (a.to:Int)):=by simp[World.cell?,hn6]);(have HCN:Hid (((cnt D s j:Nat):Int)+((R1.length:Nat):Int)=((cnt D s (j+1):Nat):Int)):=by show _=_;rw[zRk ha hR1];omega);obtain⟨cj,hcj⟩:∃cj,cnt D s j=cj:=⟨_,rfl⟩;rw[hcj]at HCN hc4 ⊢;subst hwd;clear hb6 hn6 hgw hga hnw;(go_upto_region 11 with fail);rw[←hab,←hW6];clear hab hW6 d0 d1 d2 sc0 sc1 sc2;go_wp2;go_roundg (na-(j+1));(case measure=>omega);case rel=>exact⟨j+1,by go_num,by rw[HCN.out],by omega,Nat.le_refl _,HC6,HB6⟩
      · have hjn:j=na:=by omega
        subst hjn;(have hjz:¬(j:Int)<(j:Int):=by omega);have HO:Hid (GOwn 3 1 w.heap.size wr (.slice wd nw wc) ((cs.take k).map zDz)):=HCZ.out.own;obtain⟨cj,hcj⟩:∃cj,cnt D s j=cj:=⟨_,rfl⟩;have HCK:Hid (cs.take (k+1)=cs.take k++[cj]):=by
         show _=_;have e1:D[k]?=some (exp D s):=(hI.row k s HBN.out).1;have e2:cs[k]?=some cj:=by
          rw[HCS.out,List.getElem?_map,e1,←hcj];show some (exp D s).length=_;rw[zIh];unfold cnt;rw[←HNA.out,List.take_length]
         rw[List.take_add_one,e2];rfl
        have HLK:Hid (((cs.take k).map zDz).length<1099511627776):=by
         show _<_;rw[List.length_map,List.length_take];have:=HNB.out;omega
        have HBZ2:Hid (Below w.heap.size w wr):=HCZ.out.bel;rw[hcj]at hc4 ⊢;clear hcj;go_wp2_with (at_builtin;refine zEz rtyN (by rfl) _ _ [.int .i64 (cj:Int)] _ rfl w.heap.size _ _ _ _ rfl HO.out rfl rfl ⟨rfl,by simp[Value.oneCell']⟩ HLK.out HBZ2.out.size ?_;intro v7 w7 ho7 hb7 hg7;obtain⟨a7,n7,c7,hv7⟩:∃a n c,v7=Value.slice a n c:=(by obtain⟨a,c,e,_⟩:=ho7.shape;exact⟨_,_,_,e⟩);subst hv7);go_roundg (nb-(k+1));(case measure=>omega);case rel=>exact⟨k+1,_,_,_,by go_num,rfl,by omega,Nat.le_refl _,⟨by rw[HCK.out,List.map_append];exact ho7,HBZ2.out.trans hb7⟩⟩
  · have hltz:¬(k:Int)<(nb:Int):=by omega
    go_wp2;go_ret;have e:cs.take k=cs:=List.take_of_length_le (by rw[HCS.out,List.length_map];have:=hI.len;have:=HNB.out;omega);exact⟨_,rfl,by rw[←e];exact HCT0.out⟩
end
section
namespace Mq
open Go.RowKit Go.Shelf Go.Lib Go.Sort Pm
set_option maxRecDepth 1000000
shelf_lay_g SlLaysF0.n20 Slsf 20 at Tryz 158 as insM
theorem insertion_any(blk off n cap:Nat)(w0 w:World)(R:RowP w0 blk off n)(A X B:List Pr)(S:SWK encP 3 w0 blk off (A++(X++B)).toArray w)(hn:(A++(X++B)).length=n)(a b:Nat)(ha:a=A.length)(hb:b=A.length+X.length):
 Calls Tryz.prog 158 #[.slice (some ⟨blk,off,none⟩) n cap,.int .i64 a,.int .i64 b,.func (.func 81) #[] #[]] w fun e w'=>e = .returned (.tuple #[])∧∃X',Stably zAa X X'∧SWK encP 3 w0 blk off (A++(X'++B)).toArray w':=by
 have eg:∀args w,(callFunc 81 args).run Tryz.prog w = .ok (.enter 81 args) w:=enters_of Tryz.func81 (by kernel_rfl) rfl;have hs:(A++(X++B)).toArray.size=n:=by simpa using hn
 obtain⟨⟨d0,e0,K⟩,hbig⟩:=R;have H:=(⟨⟨d0,e0,K⟩,hbig⟩:RowP w0 blk off n).holds S hs;have hc:=AnyQ.insertionSortCmpFunc insM 3 Tryz.isAgg74 Tryz.sizeOf74 encP encP_k encP_one cfP 81 #[] blk off cap a b (A++(X++B)).toArray w eg (byWord_lays blk off _ w) H (S.lt K.hblk) (by omega) (by simp;omega) (by rw[hs];exact hbig);rw[hs]at hc;refine hc.mono ?_;rintro e w' ⟨rfl,q,os,rfl⟩;refine⟨rfl,?_⟩;obtain⟨X',e1,e2⟩:=ins_list lessB_sto A X B;rw[cfP_ltf,ha,hb,e1];refine⟨X',e2,S.on K.hblk q _ os ?_⟩;have:=e2.len;simp;omega
structure Blk(s:Nat)(C:List (List Pr))(Z:List Pr):Prop where
 all:∀c∈C,c.length=s∧Up zAa c
 up:Up zAa Z
 lt:Z.length<s
theorem flat_len6{s:Nat}:∀{C:List (List Pr)},(∀c∈C,c.length=s∧Up zAa c)→C.flatten.length=s*C.length
 |[],_=>by simp
 |c::C,h=>by
  have h1:=(h c (List.mem_cons_self ..)).1;have h2:=flat_len6 (C:=C) fun x hx=>h x (List.mem_cons_of_mem _ hx)
  rw[List.flatten_cons,List.length_append,h1,h2,List.length_cons,Nat.mul_add];omega
theorem blk_done{s n:Nat}{C:List (List Pr)}{Z:List Pr}(h:Blk s C Z)(hs:0<s)(hn:(C.flatten++Z).length=n)(hns:n≤s):Up zAa (C.flatten++Z):=by
 have h1:=flat_len6 h.all;rw[List.length_append,h1]at hn
 match C,h,hn with
 |[],h,_=>simpa using h.up
 |[c],h,hn=>
  have:Z=[]:=List.eq_nil_of_length_eq_zero (by simp at hn;omega);subst this;simpa using(h.all c (List.mem_cons_self ..)).2
 |c::d::C,h,hn=>
  exfalso;rw[List.length_cons,List.length_cons]at hn;have:s*(C.length+1+1)=s*C.length+s+s:=by rw[Nat.mul_add,Nat.mul_add];omega
  omega
theorem of_same_mid{A X X' B:List Pr}(h:Stably zAa X X')(k:ByteArray):Mq.of k (A++(X'++B))=Mq.of k (A++(X++B)):=by
 rw[of_append,of_append,of_append,of_append,h.2]
end Mq
end
section
open Go.RowKit Go.Shelf Go.Lib Go.Sort Pm
theorem zUh{l m:List Pr}{k:Nat}{x y:Pr}(h:l.take k=m.take k)(hx:l[k]?=some x)(hy:m[k]?=some y)(e:x=y):l.take (k+1)=m.take (k+1):=by
 obtain⟨h1,e1⟩:=List.getElem?_eq_some_iff.1 hx;obtain⟨h2,e2⟩:=List.getElem?_eq_some_iff.1 hy;rw[List.take_succ_eq_append_getElem h1,List.take_succ_eq_append_getElem h2,e1,e2,h,e]
set_option maxHeartbeats 4000000 in
theorem zR9(w:World)(u v:Value)(l m:List Pr)(h1:PRow w u l)(h2:PRow w v m)(hl:l.length<549755813888)(hm:m.length<549755813888):
 Calls Tryz.prog 38 #[u,v] w fun e w'=>e = .returned (.bool (decide (l=m)))∧∃q,w'=w.drewN q:=by
 obtain⟨ad1,cap1,rfl⟩:∃ad cap,u = .slice ad l.length cap:=by obtain⟨ad,cap,rfl,_⟩:=h1;exact⟨ad,cap,rfl⟩
 obtain⟨ad2,cap2,rfl⟩:∃ad cap,v = .slice ad m.length cap:=by obtain⟨ad,cap,rfl,_⟩:=h2;exact⟨ad,cap,rfl⟩
 have HR1:Hid (PRow w (.slice ad1 l.length cap1) l):=h1;have HR2:Hid (PRow w (.slice ad2 m.length cap2) m):=h2;obtain⟨F,hF⟩:∃F,decide (l=m)=F:=⟨_,rfl⟩;have HF:Hid (decide (l=m)=F):=hF;obtain⟨n1,hn1⟩:∃n,l.length=n:=⟨_,rfl⟩;obtain⟨n2,hn2⟩:∃n,m.length=n:=⟨_,rfl⟩;have HN:Hid (l.length=n1∧m.length=n2):=⟨hn1,hn2⟩;rw[hn1]at HR1 hl;rw[hn2]at HR2 hm;rw[hn1,hn2,hF];clear h1 h2 hn1 hn2 hF;by_cases hne:n1=n2
 · subst hne
   have hneb:((n1:Int)==(n1:Int))=true:=beq_self_eq_true _;go_enter Tryz.func38,Tryz.ntmps38;go_wp2
   go_loopg [5] n1 (fun g s5 wr=>∃(k q:Nat),s5 = .int .i64 k∧k≤n1∧n1-k≤g∧wr=w.drewN q∧Hid (l.take k=m.take k))
   case atStart=>exact⟨0,0,rfl,Nat.zero_le _,by omega,rfl,by show _=_;simp⟩
   case round=>
    obtain⟨k,q,rfl,hk,hg,hwr,HK⟩:=hrel;by_cases hlt:k<n1
    · have hltz:(k:Int)<(n1:Int):=by omega
      obtain⟨x,hx⟩:∃x,l[k]?=some x:=⟨l[k]'(by have:=HN.out;omega),List.getElem?_eq_getElem _⟩;obtain⟨y,hy⟩:∃y,m[k]?=some y:=⟨m[k]'(by have:=HN.out;omega),List.getElem?_eq_getElem _⟩;obtain⟨b1,off1,rfl,hb1,hc1⟩:=HR1.out.at (by omega);obtain⟨b2,off2,rfl,hb2,hc2⟩:=HR2.out.at (by omega);obtain⟨c0,c1⟩:=hc1 k x hx;obtain⟨d0,d1⟩:=hc2 k y hy;(have c0':wr.cell? ⟨b1,off1+k*2,none⟩=some (.string x.1):=by rw[hwr];exact c0);(have c1':wr.cell? ⟨b1,off1+k*2+1,none⟩=some (.int .i64 x.2):=by rw[hwr];exact c1);(have d0':wr.cell? ⟨b2,off2+k*2,none⟩=some (.string y.1):=by rw[hwr];exact d0);(have d1':wr.cell? ⟨b2,off2+k*2+1,none⟩=some (.int .i64 y.2):=by rw[hwr];exact d1);have HW:Hid (wr=w.drewN q):=hwr;have HX:Hid (l[k]?=some x∧m[k]?=some y):=⟨hx,hy⟩;clear c0 c1 d0 d1 hc1 hc2 hx hy hwr;by_cases e1:x.1=y.1
      · have s1:(x.1.toList==y.1.toList)=true:=by rw[zD0];exact decide_eq_true e1
        by_cases e2:x.2=y.2
        · have s2:(x.2==y.2)=true:=beq_iff_eq.2 e2
          have HK2:Hid (l.take (k+1)=m.take (k+1)):=zUh HK.out HX.out.1 HX.out.2 (Prod.ext e1 e2);clear e1 e2;go_wp2_with fail;go_quiet (fail);go_wp2_with fail;go_roundg (n1-(k+1));(case measure=>omega);case rel=>exact⟨k+1,q+nq,by go_num,by omega,Nat.le_refl _,by rw[HW.out,World.drewN_drewN],HK2⟩
        · have s2:(x.2==y.2)=false:=beq_eq_false_iff_ne.2 e2
          have HE:Hid (F=false):=by
           show _=_;rw[←HF.out];(refine decide_eq_false fun e=>e2 ?_);have h1:=HX.out.1;rw[e,HX.out.2]at h1;rw[Option.some.inj h1]
          clear e1 e2;go_wp2_with fail;go_quiet (fail);go_wp2_with fail;go_ret;exact⟨by rw[HE.out];rfl,q+nq,by rw[HW.out,World.drewN_drewN]⟩
      · have s1:(x.1.toList==y.1.toList)=false:=by rw[zD0];exact decide_eq_false e1
        have HE:Hid (F=false):=by
         show _=_;rw[←HF.out];(refine decide_eq_false fun e=>e1 ?_);have h1:=HX.out.1;rw[e,HX.out.2]at h1;rw[Option.some.inj h1]
        clear e1;go_wp2_with fail;go_quiet (fail);go_wp2_with fail;go_ret;exact⟨by rw[HE.out];rfl,q+nq,by rw[HW.out,World.drewN_drewN]⟩
    · have hltz:¬(k:Int)<(n1:Int):=by omega
      have HE:Hid (F=true):=by
       show _=_;rw[←HF.out];refine decide_eq_true ?_;have h:=HK.out
       rwa [List.take_of_length_le (by have:=HN.out;omega),List.take_of_length_le (by have:=HN.out;omega)]at h
      go_wp2;go_ret;exact⟨by rw[HE.out];rfl,q,rfl⟩
 · have hneb:((n1:Int)==(n2:Int))=false:=beq_eq_false_iff_ne.2 (by omega)
   have HE:Hid (F=false):=by
    show _=_;rw[←HF.out];(refine decide_eq_false fun e=>hne ?_);rw[←HN.out.1,←HN.out.2,e]
   go_enter Tryz.func38,Tryz.ntmps38;go_wp2;go_ret;exact⟨by rw[HE.out];rfl,0,rfl⟩
end
