import Derived.Test.YtobjpljdgieklaaGreatDoorJ35
import Derived.Test.YtobjpljdgieklaaGreatDoorPkOrd
import Derived.Test.YtobjpljdgieklaaGreatDoorJ32
import Derived.Calls
set_option maxRecDepth 100000
namespace Go.Proofs.YtobjpljdgieklaaGreatDoor
section
open Go.RowKit Nums Fm Pk
def WkLo(B:Nat)(w:World)(wb:Nat)(base:Int)(m:List RSt)(cs:List Nat):Prop:=∀W,w.heap.size≤W.heap.size→(∀j,B≤j→j<w.heap.size→W.heap[j]?=w.heap[j]?)→WkAt W.heap.size W wb base m cs
theorem ArcsAt.move{E:Nat}{w w':World}{v:Value}{l:List RArc}(h:ArcsAt E w v l)(hs:∀g,v.ownBlock=some g→w'.heap[g]?=w.heap[g]?)(hl:∀g,v.ownBlock=some g→g<w'.heap.size):ArcsAt w'.heap.size w' v l:=by
 obtain⟨ad,cap,rfl,hc⟩:=h.row.ex;refine⟨⟨ad,cap,rfl,fun h0=>?_⟩,h.ok,h.len⟩;obtain⟨g,off,rfl,hg,hx⟩:=hc h0;exact⟨g,off,rfl,hl g rfl,fun i j x u hi hj=>(World.cell?_of_block (a:=⟨g,off+i*3+j,none⟩) (hs g rfl)).trans (hx i j x u hi hj)⟩
theorem lo_of{w V:World}{ob wb:Nat}{base:Int}{vs vw:Value}{m:List RSt}{cs:List Nat}{B2:Nat}(hN:NwAt w V ob base vs m)(hok:∀s∈m,zB0 s.out)(hl:m.length≤9223372036854775807)(hw:w.heap.size≤wb)(hb:V.heap[wb]?=some (.cells #[.int .i64 base,vs,vw] 121))(hc:GOwn 3 1 B2 V vw (cs.map zDz))(hB2:w.heap.size≤B2):WkLo w.heap.size V wb base m cs:=by
 intro W hs hk;have hwl:=(Array.getElem?_eq_some_iff.1 hb).1;obtain⟨xss,h1,h2,h3⟩:=hN.ex;have g1:GOwn 91 3 w.heap.size W vs xss:=h1.same fun g hg=>hk g (h1.block hg).1 (h1.lt hg)
 have g2:GOwn 3 1 B2 W vw (cs.map zDz):=hc.same fun g hg=>hk g (Nat.le_trans hB2 (hc.block hg).1) (hc.lt hg)
 refine⟨by omega,vs,vw,(hk wb hw hwl).trans hb,⟨⟨xss,g1.reads,h2,fun i s hi=>?_⟩,hok,hl⟩,g2.reads⟩;obtain⟨va,e1,e2,e3⟩:=h3 i s hi;exact⟨va,e1,e2.move (fun g hg=>hk g (e3 g hg).1 (e3 g hg).2.2.2) (fun g hg=>by have:=(e3 g hg).2.2.2;omega)⟩
structure S7n(ob sb:Nat)(vs:Value)(fn:Bool)(ot:Int)(va:Value)(W:World):Prop where
 c1:W.cell? ⟨ob,1,none⟩=some vs
 d0:W.cell? ⟨sb,0,none⟩=some (.bool fn)
 d1:W.cell? ⟨sb,1,none⟩=some (.int .i64 ot)
 d2:W.cell? ⟨sb,2,none⟩=some va
theorem S7n.facts{ob sb:Nat}{vs:Value}{fn:Bool}{ot:Int}{va:Value}{W:World}(h:S7n ob sb vs fn ot va W):W.cell? ⟨ob,1,none⟩=some vs∧W.cell? ⟨sb,0,none⟩=some (.bool fn)∧W.cell? ⟨sb,1,none⟩=some (.int .i64 ot)∧W.cell? ⟨sb,2,none⟩=some va:=⟨h.1,h.2,h.3,h.4⟩
theorem S7n.of{ob sb:Nat}{vs:Value}{fn:Bool}{ot:Int}{va:Value}{W W':World}(h:S7n ob sb vs fn ot va W)(e1:W'.heap[ob]?=W.heap[ob]?)(e2:W'.heap[sb]?=W.heap[sb]?):S7n ob sb vs fn ot va W':=
 ⟨(World.cell?_of_block (a:=⟨ob,1,none⟩) e1).trans h.1,(World.cell?_of_block (a:=⟨sb,0,none⟩) e2).trans h.2,(World.cell?_of_block (a:=⟨sb,1,none⟩) e2).trans h.3,(World.cell?_of_block (a:=⟨sb,2,none⟩) e2).trans h.4⟩
set_option maxHeartbeats 4000000 in
theorem New_yes(E:Nat)(w:World)(base:Int)(b:List St)(D:List (List En))(hI:Inv D b)(hF:∀R∈D,R.length≤4096)(vs:Value)(h:StsAt E w vs (b.map ofSt))(hE:E≤w.heap.size)(hT:Tabs w)(hm:b.length≤1048576)(hr:rightB base (b.map ofSt)=true)(hsm:∀s∈b.map ofSt,s.arcs.length≤1114112):
 Calls Tryz.prog 41 #[.agg #[.int .i64 base,vs]] w fun e w'=>∃wb,e = .returned (.tuple #[.pointer (some ⟨wb,0,none⟩),.bool true])∧w.heap.size≤wb∧WkLo w.heap.size w' wb base (b.map ofSt) (D.map List.length)∧Below w.heap.size w w':=by
 obtain⟨m,hmm⟩:∃m,b.map ofSt=m:=⟨_,rfl⟩;have HMM:Hid (b.map ofSt=m):=hmm;rw[hmm]at h hr hsm ⊢;have hml:m.length≤1048576:=by rw[←hmm,List.length_map];exact hm
 obtain⟨ad,cap,rfl⟩:=h.shape;obtain⟨n,hn⟩:∃n,m.length=n:=⟨_,rfl⟩;have HN:Hid (m.length=n):=hn;rw[hn]at h hml ⊢;obtain⟨W1,hW1⟩:∃W1,W1=w.alloc (.cells #[.int .i64 base,.slice ad n cap] 39):=⟨_,rfl⟩;have hb1:Below w.heap.size w W1:=by rw[hW1];exact(Below.refl _ w).alloc (Nat.le_refl _) _
 obtain⟨mb,hmb⟩:∃mb,mb=w.heap.size:=⟨_,rfl⟩;have hn1:W1.heap[mb]?=some (.cells #[.int .i64 base,.slice ad n cap] 39):=by rw[hW1,hmb];exact zAb _ _
 have HRA:Hid (Calls Tryz.prog 66 #[.agg #[.int .i64 base,.slice ad n cap]] W1 fun e w'=>e = .returned (.bool true)∧Below W1.heap.size W1 w'):=by
  have:=zYf E W1 base m _ (h.below (hb1.mono hE)) (Nat.le_trans hE hb1.size) (hT.below hb1) (by omega);rw[hr]at this;exact this
 have HB1:Hid (Below w.heap.size w W1):=hb1;have HN1:Hid (W1.heap[mb]?=some (.cells #[.int .i64 base,.slice ad n cap] 39)):=hn1;have HH:Hid (StsAt E w (.slice ad n cap) m):=h;have hOK:=h.ok;have c0:W1.cell? ⟨mb,0,none⟩=some (.int .i64 base):=by simp[World.cell?,hn1]
 have c1:W1.cell? ⟨mb,1,none⟩=some (.slice ad n cap):=by simp[World.cell?,hn1]
 clear h hT hb1 hn1 hn hmm hr;go_enter Tryz.func41,Tryz.ntmps41;go_upto_region 1 with fail
 rw[←hmb,←hW1];have HMB:Hid (mb=w.heap.size):=hmb;clear hW1 hmb;go_upto_region 3 with(go_at_call 66;refine HRA.out.mono ?_;rintro e w2 ⟨rfl,hb2⟩)
 clear c0 c1;have hk2:w2.heap[mb]?=some (.cells #[.int .i64 base,.slice ad n cap] 39):=(hb2.block mb (Array.getElem?_eq_some_iff.1 HN1.out).1).trans HN1.out;have c0:w2.cell? ⟨mb,0,none⟩=some (.int .i64 base):=by simp[World.cell?,hk2]
 have c1:w2.cell? ⟨mb,1,none⟩=some (.slice ad n cap):=by simp[World.cell?,hk2]
 have hmb2:=(Array.getElem?_eq_some_iff.1 hk2).1;obtain⟨ob,hob⟩:∃ob,ob=w2.heap.size:=⟨_,rfl⟩;obtain⟨W3,hW3⟩:∃W3,W3=w2.alloc (.cells #[.int .i64 base,.slice none 0 0] 39):=⟨_,rfl⟩;have hb3:Below w2.heap.size w2 W3:=by rw[hW3];exact(Below.refl _ w2).alloc (Nat.le_refl _) _
 have hbw2:Below w.heap.size w w2:=HB1.out.trans (hb2.mono HB1.out.size);have HW3:Hid (NwAt w W3 ob base (.slice none 0 0) (m.take 0)):=⟨hbw2.trans (hb3.mono hbw2.size),by have:=hbw2.size;omega,by rw[hW3,hob];exact zAb _ _,fun e=>(by cases e),[],GOwn.nil _ _ _ _,rfl,fun i s hi=>(by simp at hi)⟩;have c1':W3.cell? ⟨mb,1,none⟩=some (.slice ad n cap):=(hb3.cell (p:=⟨mb,1,none⟩) hmb2).trans c1;clear hk2 hb3 hbw2 hb2;go_upto_region 4 with fail
 rw[←hob,←hW3];clear hob hW3 c0 c1;go_wp2
 go_loopg [6,16] n (fun gm _ s16 wr=>∃(k:Nat) (vs2:Value),s16 = .int .i64 k∧k≤n∧n-k≤gm∧Hid (NwAt w wr ob base vs2 (m.take k)))
 case atStart=>exact⟨0,_,by go_num,Nat.zero_le _,by omega,HW3⟩
 case round=>
  obtain⟨k,vs2,rfl,hk,hgm,HNW⟩:=hrel;obtain⟨vd,vn,vc,hvv⟩:∃vd vn vc,vs2 = .slice vd vn vc:=by
   obtain⟨xss,h1,_⟩:=HNW.out.ex;obtain⟨ad,cap,e,_⟩:=h1.shape;exact⟨_,_,_,e⟩
  subst hvv;by_cases hlt:k<n
  · have hltz:(k:Int)<(n:Int):=by omega
    obtain⟨s,hs⟩:∃s,m[k]?=some s:=⟨m[k]'(by have:=HN.out;omega),List.getElem?_eq_getElem _⟩;obtain⟨g,off,va,hgd,hg,x0,x1,x2,hA⟩:=HH.out.at hs;obtain⟨wa,wc,hva⟩:=hA.shape;obtain⟨na,hna⟩:∃na,s.arcs.length=na:=⟨_,rfl⟩;have HNA:Hid (s.arcs.length=na):=hna;rw[hna]at hva;subst hva;subst hgd;have hbl:=HNW.out.bel;have u0:wr.cell? ⟨g,off+k*3,none⟩=some (.bool s.final):=(hbl.cell (p:=⟨g,off+k*3,none⟩) (Nat.lt_of_lt_of_le hg hE)).trans x0;have u1:wr.cell? ⟨g,off+k*3+1,none⟩=some (.int .i64 s.out):=(hbl.cell (p:=⟨g,off+k*3+1,none⟩) (Nat.lt_of_lt_of_le hg hE)).trans x1;have u2:wr.cell? ⟨g,off+k*3+2,none⟩=some (.slice wa na wc):=(hbl.cell (p:=⟨g,off+k*3+2,none⟩) (Nat.lt_of_lt_of_le hg hE)).trans x2;obtain⟨sb,hsb⟩:∃sb,sb=wr.heap.size:=⟨_,rfl⟩;obtain⟨W6,hW6⟩:∃W6,W6=wr.alloc (.cells #[.bool s.final,.int .i64 s.out,.slice wa na wc] 91):=⟨_,rfl⟩;(have hb6:Below wr.heap.size wr W6:=by rw[hW6];exact(Below.refl _ wr).alloc (Nat.le_refl _) _);(have hn6:W6.heap[sb]?=some (.cells #[.bool s.final,.int .i64 s.out,.slice wa na wc] 91):=by rw[hW6,hsb];exact zAb _ _);obtain⟨V3,hV3⟩:∃V3,V3=W6.drew:=⟨_,rfl⟩;(have hb3:Below wr.heap.size wr V3:=by rw[hV3];exact hb6.drew);(have hn3:V3.heap[sb]?=some (.cells #[.bool s.final,.int .i64 s.out,.slice wa na wc] 91):=by rw[hV3];exact hn6);have HN3:Hid (NwAt w V3 ob base (.slice vd vn vc) (m.take k)):=HNW.out.below hb3;have HSBG:Hid (sb=wr.heap.size):=hsb;have hob3:=(Array.getElem?_eq_some_iff.1 HN3.out.blk).1;have hsb3:=(Array.getElem?_eq_some_iff.1 hn3).1;have hS0:S7n ob sb (.slice vd vn vc) s.final s.out (.slice wa na wc) V3:=⟨HN3.out.facts.2.1,by simp[World.cell?,hn3],by simp[World.cell?,hn3],by simp[World.cell?,hn3]⟩
    have HCL:Hid (Calls Tryz.prog 67 #[.agg #[.bool s.final,.int .i64 s.out,.slice wa na wc]] V3 fun e w'=>∃v',e = .returned (.agg #[.bool s.final,.int .i64 s.out,v'])∧(∃ad cap,v' = .slice ad s.arcs.length cap)∧ArcsAt w'.heap.size w' v' s.arcs∧(∀g,v'.ownBlock=some g→V3.heap.size≤g∧g<w'.heap.size)∧Below V3.heap.size V3 w'):=
     zJ3 E V3 s _ (hA.below (HN3.out.bel.mono hE)) (Nat.le_trans hE HN3.out.bel.size) (hsm s (List.mem_of_getElem? hs))
    (have HST:Hid (m.take (k+1)=m.take k++[s]):=by show _=_;rw[List.take_add_one,hs];rfl);clear hb6 hn6 hb3 x0 x1 x2 hA hna hbl hs;(go_upto_region 7 with fail);rw[←hsb,←hW6];clear hsb hW6 u0 u1 u2;have hS0':S7n ob sb (.slice vd vn vc) s.final s.out (.slice wa na wc) W6.drew:=hV3▸hS0;refine zBj (S:=S7n ob sb (.slice vd vn vc) s.final s.out (.slice wa na wc)) 8 7 rfl zAo ?_;rw[←hV3];clear hS0' hV3;refine te2 S7n.facts 0 20 1 21 ?_;simp only[sZa,sZb,sZc];refine te S7n.facts 2 22 ?_;simp only[sZa,sZb,sZc];refine zH5 (i:=3) (w0:=V3) 23 67 #[.agg #[.bool s.final,.int .i64 s.out,.slice wa na wc]] (by kernel_rfl) rfl rfl (by rfl) (by kernel_rfl) ?_;refine HCL.out.mono ?_;rintro e V5 ⟨v5,rfl,⟨ad5,cap5,hv5⟩,hA5,hg5,hb5⟩;rw[HNA.out]at hv5;subst hv5;have hS5:S7n ob sb (.slice vd vn vc) s.final s.out (.slice wa na wc) V5:=hS0.of (hb5.block ob hob3) (hb5.block sb hsb3);have HN5:Hid (NwAt w V5 ob base (.slice vd vn vc) (m.take k)):=HN3.out.below hb5;refine⟨_,rfl,hS5,?_⟩;simp only[sZa,sZb,sZc];obtain⟨V4,hV4⟩:∃V4,V4=V5.alloc (.cells #[.bool s.final,.int .i64 s.out,.slice ad5 na cap5] 91):=⟨_,rfl⟩;(have hb4:Below V5.heap.size V5 V4:=by rw[hV4];exact(Below.refl _ V5).alloc (Nat.le_refl _) _);(have hn4:V4.heap[V5.heap.size]?=some (.cells #[.bool s.final,.int .i64 s.out,.slice ad5 na cap5] 91):=by rw[hV4];exact zAb _ _);obtain⟨xss,hX,hxl,hxe⟩:=HN5.out.ex;obtain⟨v',W',hap,ho',hgr,hobk⟩:=zBg rtyS (GOwn.below hX hb4) (Nat.le_trans HN5.out.bel.size hb4.size) (x:=[.bool s.final,.int .i64 s.out,.slice ad5 na cap5]) ⟨rfl,by simp[Value.oneCell']⟩ (nb:=V5.heap.size) (fun j u hj=>by simp only[World.cell?,hn4];simpa using hj) (by rw[hxl,List.length_take];omega) 37 1;obtain⟨vd2,vn2,vc2,hvv2⟩:∃vd vn vc,v' = .slice vd vn vc:=by
     obtain⟨ad,cap,e,_⟩:=GOwn.shape ho';exact⟨_,_,_,e⟩
    subst hvv2;have hsz35:=hb5.size;obtain⟨hNW,hc1,hfz⟩:=HN5.out.more hX hxl hxe hA5 (fun g hg=>by
     obtain⟨k1,k2⟩:=hg5 g hg;refine⟨Nat.le_trans HN3.out.bel.size k1,by omega,fun e=>?_,k2⟩;obtain⟨ys,hY,_⟩:=HN3.out.ex;have:=hY.lt e;omega) hb4 ho' hgr hobk
    have hb45:S7n ob sb (.slice vd vn vc) s.final s.out (.slice wa na wc) V4:=hS5.of (hb4.block ob (by omega)) (hb4.block sb (by omega));have hvsb:(Value.slice vd vn vc).ownBlock≠some sb:=fun e=>by
     obtain⟨ys,hY,_⟩:=HNW.out.ex;have h1:=hY.lt e;have h2:=HSBG.out;omega
    have hS6:S7n ob sb (.slice vd vn vc) s.final s.out (.slice wa na wc) W':=hb45.of (hgr.block ob (by have:=hb4.size;omega) (fun e=>HN5.out.ap e.symm)) (hgr.block sb (by have:=hb4.size;omega) (fun e=>hvsb e.symm));obtain⟨W8,hW8⟩:∃W8,W8=W'.setCell ⟨ob,1,none⟩ (.slice vd2 vn2 vc2):=⟨_,rfl⟩;(have HNX:Hid (NwAt w W8 ob base (.slice vd2 vn2 vc2) (m.take (k+1))):=by rw[hW8,HST.out];exact hNW);have HAP2:Hid ((Builtin.append_ #[37,37] 37 #[.slice vd vn vc,.slice (some ⟨V5.heap.size,0,none⟩) 1 1]).run Tryz.prog V4 = .ok (.slice vd2 vn2 vc2) W'):=hap;clear hap ho' hgr hobk hNW hn4 hb4 hX hxl hxe hA5 hg5 hb5 hvsb;refine zAi (i:=4) (v := .slice (some ⟨V5.heap.size,0,none⟩) 1 1) (w':=V4) 24 (by kernel_rfl) rfl rfl (by rfl) (by rw[hV4];go_simp;first|done|exact rfl) hb45 ?_;simp only[sZa,sZb,sZc];refine zAi (i:=5) (v := .slice vd2 vn2 vc2) (w':=W') 25 (by kernel_rfl) rfl rfl (by rfl) (zEx HAP2.out) hS6 ?_;simp only[sZa,sZb,sZc];refine zAi (i:=6) (v := .pointer (some ⟨ob,1,none⟩)) (w':=W') 26 (by kernel_rfl) rfl rfl (by rfl) (by kernel_rfl) hS6 ?_;simp only[sZa,sZb,sZc];refine zBb (w':=W8) (by kernel_rfl) rfl rfl (by rfl) (by rw[hW8];go_simp;first|done|exact rfl) (by kernel_rfl) ?_;clear hV4 hW8 hc1 hfz hb45 hS6 hS5 hS0;go_wp2;go_roundg (n-(k+1));(case measure=>omega);case rel=>exact⟨k+1,_,by go_num,by omega,Nat.le_refl _,HNX⟩
  · have hltz:¬(k:Int)<(n:Int):=by omega
    (have hkn:k=n:=by omega);subst hkn;have HNF:Hid (NwAt w wr.drew ob base (.slice vd vn vc) m):=by
     have e:m.take k=m:=List.take_of_length_le (by rw[HN.out];exact Nat.le_refl _);have:=HNW.out.below (Below.refl _ wr).drew;rw[e]at this;exact this
    have hS9:S9n ob base (.slice vd vn vc) wr.drew:=⟨HNF.out.facts.1,HNF.out.facts.2.1⟩
    have HCO:Hid (Calls Tryz.prog 68 #[.slice vd vn vc] wr.drew fun e w'=>∃vw,e = .returned vw∧CtAt wr.drew.heap.size wr.drew w' vw (D.map List.length)):=
     zPb wr.drew.heap.size wr.drew b D hI hF _ (by rw[HMM.out];exact HNF.out.sts hOK (by have:=HN.out;omega)) (Nat.le_refl _) hm
    have hobr:=(Array.getElem?_eq_some_iff.1 HNF.out.blk).1;(go_upto_region 9 with fail);refine zAd (S:=S9n ob base (.slice vd vn vc)) 8 rfl zAo hS9 (fun _=>?_);refine tq2 S9n.facts 0 28 1 29 ?_;simp only[sZa,sZb,sZc];refine tq S9n.facts 2 30 ?_;simp only[sZa,sZb,sZc];refine zAe (i:=3) (w0:=wr.drew) 31 68 #[.slice vd vn vc] (by kernel_rfl) rfl rfl (by rfl) (by kernel_rfl) ?_;refine HCO.out.mono ?_;rintro e V5 ⟨vw,rfl,hct⟩;(obtain⟨wd,wn,wc,hvw⟩:∃a n c,vw=Value.slice a n c:=by obtain⟨a,c,e,_⟩:=hct.own.shape;exact⟨_,_,_,e⟩);subst hvw;have HN5:Hid (NwAt w V5 ob base (.slice vd vn vc) m):=HNF.out.below hct.bel;have hS5:S9n ob base (.slice vd vn vc) V5:=⟨HN5.out.facts.1,HN5.out.facts.2.1⟩;refine⟨_,rfl,hS5,fun _=>?_⟩;simp only[sZa,sZb,sZc];obtain⟨V6,hV6⟩:∃V6,V6=V5.alloc (.cells #[.int .i64 base,.slice vd vn vc,.slice wd wn wc] 121):=⟨_,rfl⟩;(have hb6:Below V5.heap.size V5 V6:=by rw[hV6];exact(Below.refl _ V5).alloc (Nat.le_refl _) _);(have hn6:V6.heap[V5.heap.size]?=some (.cells #[.int .i64 base,.slice vd vn vc,.slice wd wn wc] 121):=by rw[hV6];exact zAb _ _);have HN6:Hid (NwAt w V6 ob base (.slice vd vn vc) m):=HN5.out.below hb6;have hS6:S9n ob base (.slice vd vn vc) V6:=⟨HN6.out.facts.1,HN6.out.facts.2.1⟩;have hsd:w.heap.size≤wr.drew.heap.size:=HNF.out.bel.size;have HWF:Hid (WkLo w.heap.size V6 V5.heap.size base m (D.map List.length)):=lo_of HN6.out hOK (by have:=HN.out;omega) HN5.out.bel.size hn6 (hct.below hb6).own hsd;have HLO:Hid (w.heap.size≤V5.heap.size):=HN5.out.bel.size;clear hct hb6 hn6 hS9 hS5;refine tq S9n.facts 4 32 ?_;simp only[sZa,sZb,sZc];refine zAu (i:=5) (v := .pointer (some ⟨V5.heap.size,0,none⟩)) (w':=V6) 33 (by kernel_rfl) rfl rfl (by rfl) (by rw[hV6];go_simp;first|done|exact rfl) hS6 (fun _=>?_);simp only[sZa,sZb,sZc];refine tq2 S9n.facts 6 2 7 3 ?_;simp only[sZa,sZb,sZc];refine wpAnyH_done (by kernel_rfl) ?_ _;clear hV6 hS6;go_wp2;go_ret2;exact⟨_,rfl,HLO.out,HWF.out,HN6.out.bel⟩
end
section
open Go.RowKit Go.Lib Nums Pm
namespace Bt
def zIv(k:Nat)(out:List Mt)(m:Mt):Bool:=decide (out.length<k)||(decide (0<k)&&btr m (el out (k-1)))
structure AddSays(B:Nat)(w w':World)(p:Nat)(room:Int)(v:Value)(out:List Mt)(m:Mt):Prop where
 ex:∃v' h',KAt B w' p room v' h'∧Kp room.toNat (stp room.toNat out m) h'∧Nxt w v v'
 up:Upd (KF p v) w w'
def SAdd(mb:Nat)(m:Mt)(W:World):Prop:=W.heap[mb]?=some (.cells (cellsM m).toArray 74)
theorem SAdd.facts{mb:Nat}{m:Mt}{W:World}(h:SAdd mb m W):W.cell? ⟨mb,0,none⟩=some (.string m.1)∧W.cell? ⟨mb,1,none⟩=some (.int .i64 m.2.1)∧W.cell? ⟨mb,2,none⟩=some (.int .i64 m.2.2):=zD8 h
theorem zRr{B:Nat}{w wz:World}{p:Nat}{room:Int}{v v1:Value}{h1 out:List Mt}{m:Mt}{mb:Nat}(K1:KAt B wz p room v1 h1)(H1:Hp h1.length h1)(hl:h1.length<549755813888)(hx:v1.ownBlock=v.ownBlock)(hu:Upd (KF p v) w wz)(hS:SAdd mb m wz)(hmk:∀k,KF p v k→k<mb)(hKp:∀h',h'.Perm (h1++[m])→Hp h'.length h'→Kp room.toNat (stp room.toNat out m) h'):
 Calls Tryz.prog 128 #[zGl p,.iface 74 (valM m)] wz.drew fun e w'=>e = .returned (.tuple #[])∧SAdd mb m w'∧AddSays B w w' p room v out m:=by
 have hb:Below wz.heap.size wz wz.drew:=(Below.refl _ wz).drew;have e:KF p v1=KF p v:=by funext k;unfold KF;rw[hx]
 refine(Push_any B wz.drew p room v1 h1 m (K1.below hb) H1 hl).mono ?_;rintro e' w' ⟨rfl,v',h',hK,hu',hx',hp,hh⟩;rw[e]at hu';refine⟨rfl,?_,⟨v',h',hK,hKp h' hp hh,?_⟩,(hu.trans (G:=fun _=>False) (zAj hb) (fun _ _ f=>f.elim)).trans hu' (fun _ _ f=>f)⟩
 · unfold SAdd at hS ⊢
   rw[hu'.block mb (Array.getElem?_eq_some_iff.1 hS).1 (fun f=>by have:=hmk mb f;omega)];exact hS
 · rcases hx' with e2|⟨g,e2,hg⟩
   · exact .inl (e2.trans hx)
   · exact .inr ⟨g,e2,Nat.le_trans hu.size hg⟩
theorem zRx{k:Nat}{out:List Mt}(m:Mt)(h:out.length<k):zIv k out m=true:=by unfold zIv;rw[decide_eq_true h];rfl
theorem el_last(ini:List Mt)(z:Mt):el (ini++[z]) ini.length=z:=by unfold el;simp
theorem zRy{k:Nat}{ini:List Mt}{z:Mt}(m:Mt)(hk:k=ini.length+1):zIv k (ini++[z]) m=btr m z:=by
 unfold zIv;rw[decide_eq_false (by simp;omega),decide_eq_true (show 0<k by omega),show k-1=ini.length by omega,el_last];simp
theorem zRw{k:Nat}(m:Mt)(hk:k=0):zIv k [] m=false:=by subst hk;rfl
theorem zFb{B:Nat}{w wz w2:World}{p:Nat}{room:Int}{v:Value}{h:List Mt}{m:Mt}{mb:Nat}(K:KAt B wz p room v h)(hS:SAdd mb m wz)(hu:Upd (KF p v) w wz)(hb2:Below wz.heap.size wz w2)(x:Mt):
 ∃W3,zC7 Tryz.prog (.pointer (some ⟨w2.heap.size,0,none⟩)) (valM x) (w2.alloc (.cells #[.string ⟨#[]⟩,.int .i64 0,.int .i64 0] 74)) = .ok () W3∧Hid (KAt B W3 p room v h∧SAdd mb m W3∧Upd (KF p v) w W3)∧zFp Tryz.prog (.pointer (some ⟨mb,0,none⟩)) W3 = .ok (valM m) W3∧zFp Tryz.prog (.pointer (some ⟨w2.heap.size,0,none⟩)) W3 = .ok (valM x) W3:=by
 obtain⟨V3,hV3⟩:∃V3,w2.alloc (.cells #[.string ⟨#[]⟩,.int .i64 0,.int .i64 0] 74)=V3:=⟨_,rfl⟩;have hb3:Below w2.heap.size w2 V3:=by rw[←hV3];exact(Below.refl _ w2).alloc (Nat.le_refl _) _
 have hn3:V3.heap[w2.heap.size]?=some (.cells #[.string ⟨#[]⟩,.int .i64 0,.int .i64 0] 74):=by rw[←hV3];exact zBv _ _
 obtain⟨W3,hst,hu3,hc3⟩:=zD7 V3 w2.heap.size _ _ _ hn3 x;have hbz3:Below wz.heap.size wz V3:=hb2.trans (hb3.mono hb2.size);have hb33:Below wz.heap.size wz W3:=hbz3.trans (hu3.below (B:=wz.heap.size) (fun k e=>by have:k=w2.heap.size:=e;have:=hb2.size;omega) hbz3.size);have HS3:SAdd mb m W3:=by
  unfold SAdd;rw[hb33.block mb (Array.getElem?_eq_some_iff.1 hS).1];exact hS
 rw[hV3];exact⟨W3,hst,⟨K.below hb33,HS3,hu.trans (G:=fun _=>False) (zAj hb33) (fun _ _ f=>f.elim)⟩,zKz HS3,zKz hc3⟩
attribute [local go_sem ↓] zB3 zBu
set_option maxHeartbeats 2000000 in
theorem Add_any(B:Nat)(w:World)(p:Nat)(room:Int)(v:Value)(h out:List Mt)(m:Mt)(K:KAt B w p room v h)(KP:Kp room.toNat out h)(hr:room≤64):
 Calls Tryz.prog 84 #[.pointer (some ⟨p,0,none⟩),valM m] w fun e w'=>e = .returned (.bool (zIv room.toNat out m))∧AddSays B w w' p room v out m:=by
 obtain⟨V1,hV1⟩:∃V1,w.alloc (.cells #[.string m.1,.int .i64 m.2.1,.int .i64 m.2.2] 74)=V1:=⟨_,rfl⟩;obtain⟨mb,hmb⟩:∃mb,w.heap.size=mb:=⟨_,rfl⟩;have hb1:Below w.heap.size w V1:=by rw[←hV1];exact(Below.refl _ w).alloc (Nat.le_refl _) _
 have HN1:Hid (SAdd mb m V1):=by show SAdd mb m V1;unfold SAdd;rw[←hV1,←hmb];exact zBv _ _
 have HK1:Hid (KAt B V1 p room v h):=K.below hb1;have HB1:Hid (Below w.heap.size w V1):=hb1;have HMK:Hid (∀k,KF p v k→k<mb):=fun k hk=>by
  rcases hk with rfl|hk
  · have:=K.lt;omega
  · have:=K.row.lt hk;omega
 have HKP:Hid (Kp room.toNat out h):=KP;have HMB:Hid (w.heap.size=mb):=hmb;have HLO:=KP.same_len;have c0:=HK1.out.c0;have HL:∀q,Calls Tryz.prog 124 #[.pointer (some ⟨p,0,none⟩)] (V1.drewN q) fun e w'=>e = .returned (.int .i64 h.length)∧w'=V1.drewN q:=fun q=>zLw B (V1.drewN q) p room v h (HK1.out.below (belowN (Below.refl _ _) q))
 obtain⟨n,hn⟩:∃n,h.length=n:=⟨_,rfl⟩;have HN:Hid (h.length=n):=hn;rw[hn]at HL;unfold valM;clear K KP hb1;by_cases c:(n:Int)≥room
 · have hcb:decide ((n:Int)≥room)=true:=decide_eq_true c
   have hc2:room≤(n:Int):=c;by_cases hn0:n=0
   · subst hn0
     have HH:Hid (h=[]):=List.length_eq_zero_iff.1 HN.out;have HO:Hid (out=[]):=List.length_eq_zero_iff.1 (by have:=HLO;have:=HN.out;omega);(have HWB:Hid (zIv room.toNat out m=false):=by show _=_;rw[HO.out];exact zRw m (by omega));(have HT:Hid (room.toNat=0):=by show room.toNat=0;omega);have HWO:Hid (∀W,KAt B W p room v h→Calls Tryz.prog 125 #[.pointer (some ⟨p,0,none⟩)] W fun e w'=>e = .returned (.tuple #[valM (el h 0),.bool false])∧Below W.heap.size W w'):=fun W hW=>by
      have:=zNw B W p room v h hW;rw[HN.out]at this;exact this
     have hc3:decide (room≤0)=true:=decide_eq_true (by omega);(have hc4:room≤0:=by omega);clear HLO hn;go_enter Tryz.func84,Tryz.ntmps84;go_wp2_with fail;go_quiet ((go_at_call 124;exact Calls.quiet_of_same (HL _)));obtain⟨wz,hwz⟩:∃wz,wz=V1.drewN nq:=⟨_,rfl⟩;(have HBZ:Hid (Below V1.heap.size V1 wz):=by show Below _ _ _;rw[hwz];exact belowN (Below.refl _ _) nq);have HKZ:Hid (KAt B wz p room v h):=HK1.out.below HBZ.out;(have HSZ:Hid (SAdd mb m wz):=by show SAdd mb m wz;rw[hwz];exact HN1.out);have HUZ:Hid (Upd (KF p v) w wz):=(zAj HB1.out).trans (G:=fun _=>False) (zAj HBZ.out) (fun _ _ f=>f.elim);rw[←hwz];clear hwz HL c0;clear hV1 hmb;(go_upto_region 2 with fail);go_wp2_with (go_at_call 125;refine(HWO.out wz HKZ.out).mono ?_;rintro e w2 ⟨rfl,hb2⟩;obtain⟨W3,hst,H3,lm,lx⟩:=zFb HKZ.out HSZ.out HUZ.out hb2 (el h 0);clear hb2);go_ret;exact⟨by rw[HWB.out];rfl,⟨v,h,H3.out.1,by rw[HT.out,stp_zero,HH.out];exact Kp.nil 0,.inl rfl⟩,H3.out.2.2⟩
   · have HWO:Hid (∀W,KAt B W p room v h→Calls Tryz.prog 125 #[.pointer (some ⟨p,0,none⟩)] W fun e w'=>e = .returned (.tuple #[valM (el h 0),.bool true])∧Below W.heap.size W w'):=fun W hW=>by
      have:=zNw B W p room v h hW;rw[decide_eq_true (by have:=HN.out;omega)]at this;exact this
     (have HBE:Hid (∀W,Calls Tryz.prog 126 #[valM m,valM (el h 0)] W fun e w'=>e = .returned (.bool (btr m (el h 0)))∧Below W.heap.size W w'):=fun W=>zKb m (el h 0) W);obtain⟨ini,hini⟩:=HKP.out.worst (by have:=HN.out;omega);have HIN:Hid (out=ini++[el h 0]):=hini;have HRT:Hid (room.toNat=ini.length+1∧n=ini.length+1):=by
      have h1:=HKP.out.len;rw[hini,List.length_append,List.length_singleton]at h1;rw[hini,List.length_append,List.length_singleton]at HLO;have:=HN.out;exact⟨by omega,by omega⟩
     obtain⟨bt,hbt⟩:∃b,btr m (el h 0)=b:=⟨_,rfl⟩;have HBT:Hid (btr m (el h 0)=bt):=hbt;(have HWB:Hid (zIv room.toNat out m=bt):=by show _=_;rw[HIN.out,zRy m HRT.out.1];exact hbt);rw[hbt]at HBE;clear HLO hn hini hbt;cases bt
     · have HST:Hid (stp room.toNat out m=out):=by
        show _=_;have:=HKP.out.srt;rw[HIN.out]at this ⊢;exact stp_no m this HRT.out.1 HBT.out
       go_enter Tryz.func84,Tryz.ntmps84;go_wp2_with fail;go_quiet ((go_at_call 124;exact Calls.quiet_of_same (HL _)));obtain⟨wz,hwz⟩:∃wz,wz=V1.drewN nq:=⟨_,rfl⟩;(have HBZ:Hid (Below V1.heap.size V1 wz):=by show Below _ _ _;rw[hwz];exact belowN (Below.refl _ _) nq);have HKZ:Hid (KAt B wz p room v h):=HK1.out.below HBZ.out;(have HSZ:Hid (SAdd mb m wz):=by show SAdd mb m wz;rw[hwz];exact HN1.out);have HUZ:Hid (Upd (KF p v) w wz):=(zAj HB1.out).trans (G:=fun _=>False) (zAj HBZ.out) (fun _ _ f=>f.elim);rw[←hwz];clear hwz HL c0;clear hV1 hmb
       go_wp2_with (first
        |(go_at_call 125;refine(HWO.out wz HKZ.out).mono ?_;rintro e w2 ⟨rfl,hb2⟩;obtain⟨W3,hst,H3,lm,lx⟩:=zFb HKZ.out HSZ.out HUZ.out hb2 (el h 0);clear hb2)
        |(go_at_call 126;refine(HBE.out W3).mono ?_;rintro e w4 ⟨rfl,hb4⟩;have HB4:Hid (Below W3.heap.size W3 w4):=hb4;clear hb4))
       go_ret;exact⟨by rw[HWB.out];rfl,⟨v,h,H3.out.1.below HB4.out,by rw[HST.out];exact HKP.out,.inl rfl⟩,H3.out.2.2.trans (G:=fun _=>False) (zAj HB4.out) (fun _ _ f=>f.elim)⟩
     · have HST:Hid (stp room.toNat out m=ins m ini):=by
        show _=_;rw[HIN.out];exact stp_yes m HRT.out.1 HBT.out
       go_enter Tryz.func84,Tryz.ntmps84;go_wp2_with fail;go_quiet ((go_at_call 124;exact Calls.quiet_of_same (HL _)));obtain⟨wz,hwz⟩:∃wz,wz=V1.drewN nq:=⟨_,rfl⟩;(have HBZ:Hid (Below V1.heap.size V1 wz):=by show Below _ _ _;rw[hwz];exact belowN (Below.refl _ _) nq);have HKZ:Hid (KAt B wz p room v h):=HK1.out.below HBZ.out;(have HSZ:Hid (SAdd mb m wz):=by show SAdd mb m wz;rw[hwz];exact HN1.out);have HUZ:Hid (Upd (KF p v) w wz):=(zAj HB1.out).trans (G:=fun _=>False) (zAj HBZ.out) (fun _ _ f=>f.elim);rw[←hwz];clear hwz HL c0;clear hV1 hmb
       go_upto_region 6 with(first
        |(go_at_call 125;refine(HWO.out wz HKZ.out).mono ?_;rintro e w2 ⟨rfl,hb2⟩;obtain⟨W3,hst,H3,lm,lx⟩:=zFb HKZ.out HSZ.out HUZ.out hb2 (el h 0);clear hb2)
        |(go_at_call 126;refine(HBE.out W3).mono ?_;rintro e w4 ⟨rfl,hb4⟩;have HB4:Hid (Below W3.heap.size W3 w4):=hb4;clear hb4)
        |(go_at_call 127;refine(zFh B w4 p room v h (n-1) (H3.out.1.below HB4.out) HKP.out.hp (by have:=HN.out;omega) (by have:=HN.out;have:=HRT.out;omega)).mono ?_;rintro e w5 ⟨rfl,v5,h5,hK5,hu5,hx5,hp5,hh5,hl5⟩))
       have HPU:Hid (Calls Tryz.prog 128 #[zGl p,.iface 74 (valM m)] w5.drew fun e w'=>e = .returned (.tuple #[])∧SAdd mb m w'∧AddSays B w w' p room v out m):=by
        have hu4:=H3.out.2.2.trans (G:=fun _=>False) (zAj HB4.out) (fun _ _ f=>f.elim);refine zRr hK5 hh5 (by have:=HRT.out;omega) hx5 (hu4.trans hu5 (fun _ _ f=>f)) ?_ HMK.out (fun h' hp' hh'=>?_)
        · have h4:SAdd mb m w4:=by
           unfold SAdd;rw[HB4.out.block mb (Array.getElem?_eq_some_iff.1 H3.out.2.1).1];exact H3.out.2.1
          unfold SAdd;rw[hu5.block mb (Array.getElem?_eq_some_iff.1 h4).1 (fun f=>by have:=HMK.out mb f;omega)];exact h4
        · have K1:=HKP.out
          rw[HIN.out]at K1;have K2:Kp room.toNat ini h5:=K1.less hh5 hp5;rw[HST.out];exact K2.add m (by have:=HRT.out;omega) hh' hp'
       have HSZ2:Hid (SAdd mb m w5):=by
        have h4:SAdd mb m w4:=by
         unfold SAdd;rw[HB4.out.block mb (Array.getElem?_eq_some_iff.1 H3.out.2.1).1];exact H3.out.2.1
        show SAdd mb m w5;unfold SAdd;rw[hu5.block mb (Array.getElem?_eq_some_iff.1 h4).1 (fun f=>by have:=HMK.out mb f;omega)];exact h4
       clear HSZ HUZ HKZ HBZ hK5 hu5 hx5 hp5 hh5 hl5 lm lx hst;refine zAd (S:=SAdd mb m) 7 rfl zMq (show SAdd mb m w5.drew from HSZ2.out) (fun _=>?_);refine tq4 SAdd.facts 0 29 1 30 2 31 3 32 ?_;simp only[sZa,sZb,sZc];refine tq2 SAdd.facts 4 33 5 34 ?_;simp only[sZa,sZb,sZc];refine zAe (i:=6) (w0:=w5.drew) 35 128 #[zGl p,.iface 74 (valM m)] (by kernel_rfl) rfl rfl (by rfl) (by kernel_rfl) (HPU.out.mono ?_);rintro e wy ⟨rfl,hSy,hA⟩;refine⟨_,rfl,hSy,fun _=>?_⟩;simp only[sZa,sZb,sZc];refine wpAnyH_done (by kernel_rfl) ?_ _;go_wp2;go_ret;exact⟨by rw[HWB.out];rfl,hA⟩
 · have hcb:decide ((n:Int)≥room)=false:=decide_eq_false c
   have hc2:¬room≤(n:Int):=c;have HWB:Hid (zIv room.toNat out m=true):=zRx m (by have:=HN.out;omega);(have HLT:Hid (out.length<room.toNat):=by have:=HN.out;show out.length<room.toNat;omega);clear HLO hn;go_enter Tryz.func84,Tryz.ntmps84;go_wp2_with fail;go_quiet ((go_at_call 124;exact Calls.quiet_of_same (HL _)));obtain⟨wz,hwz⟩:∃wz,wz=V1.drewN nq:=⟨_,rfl⟩;(have HBZ:Hid (Below V1.heap.size V1 wz):=by show Below _ _ _;rw[hwz];exact belowN (Below.refl _ _) nq);have HKZ:Hid (KAt B wz p room v h):=HK1.out.below HBZ.out;(have HSZ:Hid (SAdd mb m wz):=by show SAdd mb m wz;rw[hwz];exact HN1.out);have HUZ:Hid (Upd (KF p v) w wz):=(zAj HB1.out).trans (G:=fun _=>False) (zAj HBZ.out) (fun _ _ f=>f.elim);rw[←hwz];clear hwz HL c0;go_upto_region 6 with fail
   have HPU:Hid (Calls Tryz.prog 128 #[zGl p,.iface 74 (valM m)] wz.drew fun e w'=>e = .returned (.tuple #[])∧SAdd mb m w'∧AddSays B w w' p room v out m):=
    zRr HKZ.out HKP.out.hp (by have:=HN.out;omega) rfl HUZ.out HSZ.out HMK.out (fun h' hp' hh'=>by rw[stp_room m HLT.out];exact HKP.out.add m HLT.out hh' hp')
   refine zAd (S:=SAdd mb m) 7 rfl zMq (show SAdd mb m wz.drew from HSZ.out) (fun _=>?_);refine tq4 SAdd.facts 0 29 1 30 2 31 3 32 ?_;simp only[sZa,sZb,sZc];refine tq2 SAdd.facts 4 33 5 34 ?_;simp only[sZa,sZb,sZc];refine zAe (i:=6) (w0:=wz.drew) 35 128 #[zGl p,.iface 74 (valM m)] (by kernel_rfl) rfl rfl (by rfl) (by kernel_rfl) (HPU.out.mono ?_);rintro e wy ⟨rfl,hSy,hA⟩;refine⟨_,rfl,hSy,fun _=>?_⟩;simp only[sZa,sZb,sZc];refine wpAnyH_done (by kernel_rfl) ?_ _;go_wp2;go_ret;exact⟨by rw[HWB.out];rfl,hA⟩
end Bt
end
