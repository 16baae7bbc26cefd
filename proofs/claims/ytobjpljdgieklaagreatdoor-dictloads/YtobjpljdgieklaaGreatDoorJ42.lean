import Derived.Test.YtobjpljdgieklaaGreatDoorJ38
import Derived.Test.YtobjpljdgieklaaGreatDoorJ39
set_option maxRecDepth 100000
set_option maxHeartbeats 8000000
namespace Go.Proofs.YtobjpljdgieklaaGreatDoor
section
open Go.RowKit Nums Fm Pk
theorem zXp(E:Nat)(w:World)(base:Int)(m:List RSt)(vs:Value)(h:StsAt E w vs m)(hE:E≤w.heap.size)(hT:Tabs w)(hm:m.length≤1048576):
 Calls Tryz.prog 66 #[.agg #[.int .i64 base,vs]] w fun e w'=>e = .returned (.bool (rightB base m))∧Below w.heap.size w w':=by
 obtain⟨ad,cap,rfl⟩:=h.shape;have HB0:Hid (∀o,Below w.heap.size w (w.alloc o)):=fun o=>(Below.refl _ w).alloc (Nat.le_refl _) o
 by_cases h0:m=[]
 · have HR:Hid (rightB base m=decide (base=0)):=by show _=_;rw[rightB,if_pos h0]
   (have hl:m.length=0:=by rw[h0];rfl);rw[hl];clear h hT hl h0;go_enter Tryz.func66,Tryz.ntmps66;by_cases hb:base=0
   · subst hb
     go_wp2;go_ret;exact⟨by rw[HR.out];rfl,HB0.out _⟩
   · have h1b:(base==0)=false:=beq_eq_false_iff_ne.2 hb
     go_wp2;go_ret;exact⟨by rw[HR.out,decide_eq_false hb];rfl,HB0.out _⟩
 have hpos:=List.length_pos_iff.2 h0;obtain⟨n,hn⟩:∃n,m.length=n+1:=⟨m.length-1,by omega⟩;have HN:Hid (m.length=n+1):=hn;obtain⟨rt,hrt⟩:∃rt,m[n]?=some rt:=⟨m[n]'(by omega),List.getElem?_eq_getElem _⟩;have HRR:Hid (rightB base m=(decide (1≤base∧base≤1048576)&&!rt.final&&zBg 0 m&&bndB base [] m&&numB m&&decide m.Nodup)):=by
  show _=_;rw[rightB,if_neg h0,show m.length-1=n by omega,List.getD_eq_getElem?_getD,hrt];rfl
 have hn0:(((n:Int)+1)==0)=false:=beq_eq_false_iff_ne.2 (by omega);rw[hn]at h ⊢;obtain⟨g,off,va,rfl,hg,c0,c1,c2,hA⟩:=h.at hrt;obtain⟨vd,vc,hva⟩:=hA.shape;obtain⟨na,hna⟩:∃na,rt.arcs.length=na:=⟨_,rfl⟩;rw[hna]at hva;subst hva;have HS:Hid (StsAt E w (.slice (some ⟨g,off,none⟩) (n+1) cap) m):=h;by_cases hb1:base<1
 · have HF:Hid (rightB base m=false):=by show _=_;rw[HRR.out,decide_eq_false (by omega)];rfl
   clear h hT HRR hrt;go_enter Tryz.func66,Tryz.ntmps66;go_wp2;go_ret;exact⟨by rw[HF.out];rfl,HB0.out _⟩
 by_cases hb2:1048576<base
 · have HF:Hid (rightB base m=false):=by show _=_;rw[HRR.out,decide_eq_false (by omega)];rfl
   clear h hT HRR hrt;go_enter Tryz.func66,Tryz.ntmps66;go_wp2;go_ret;exact⟨by rw[HF.out];rfl,HB0.out _⟩
 obtain⟨mb,hmb⟩:∃mb,mb=w.heap.size:=⟨_,rfl⟩;obtain⟨rb,hrb⟩:∃rb,rb=w.heap.size+1:=⟨_,rfl⟩;obtain⟨W2,hW2⟩:∃W2,W2=(w.alloc (.cells #[.int .i64 base,.slice (some ⟨g,off,none⟩) (n+1) cap] 39)).alloc (.cells #[.bool rt.final,.int .i64 rt.out,.slice vd na vc] 91):=⟨_,rfl⟩;have hbw:Below w.heap.size w W2:=by rw[hW2];exact((Below.refl _ w).alloc (Nat.le_refl _) _).alloc (by simp) _
 have hm2:W2.heap[mb]?=some (.cells #[.int .i64 base,.slice (some ⟨g,off,none⟩) (n+1) cap] 39):=by
  rw[hW2,(MapKept.heap_alloc _ _).2 mb (by rw[hmb];simp),hmb];exact zAb _ _
 have hr2:W2.heap[rb]?=some (.cells #[.bool rt.final,.int .i64 rt.out,.slice vd na vc] 91):=by
  have e:(w.alloc (.cells #[.int .i64 base,.slice (some ⟨g,off,none⟩) (n+1) cap] 39)).heap.size=rb:=by rw[hrb];simp
  rw[hW2,←e];exact zAb _ _
 have HBW:Hid (Below w.heap.size w W2):=hbw;have HCL:Hid (∀W,Below W2.heap.size W2 W→W.cell? ⟨mb,0,none⟩=some (.int .i64 base)∧W.cell? ⟨mb,1,none⟩=some (.slice (some ⟨g,off,none⟩) (n+1) cap)):=fun W hW=>by
  have h1:W.heap[mb]?=W2.heap[mb]?:=hW.block mb (Array.getElem?_eq_some_iff.1 hm2).1;exact⟨by simp[World.cell?,h1,hm2],by simp[World.cell?,h1,hm2]⟩
 have r0:W2.cell? ⟨rb,0,none⟩=some (.bool rt.final):=by simp[World.cell?,hr2]
 obtain⟨m0,m1⟩:=HCL.out W2 (Below.refl _ _);have hSW:∀W,Below W2.heap.size W2 W→StsAt E W (.slice (some ⟨g,off,none⟩) (n+1) cap) m∧E≤W.heap.size∧Tabs W:=fun W hW=>by
  have hb:=hbw.trans (hW.mono hbw.size);exact⟨h.below (hb.mono hE),Nat.le_trans hE hb.size,hT.below hb⟩
 have HFO:Hid (∀W,Below W2.heap.size W2 W→Calls Tryz.prog 103 #[.slice (some ⟨g,off,none⟩) (n+1) cap] W fun e w'=>e = .returned (.bool (zBg 0 m))∧Below W2.heap.size W2 w'):=fun W hW=>by
  obtain⟨s1,s2,s3⟩:=hSW W hW;refine(zSl E W m _ s1 s2 s3).mono ?_;rintro e w' ⟨rfl,h2⟩;exact⟨rfl,hW.trans (h2.mono hW.size)⟩
 have HBO:Hid (zBg 0 m=true→∀W,Below W2.heap.size W2 W→Calls Tryz.prog 104 #[.agg #[.int .i64 base,.slice (some ⟨g,off,none⟩) (n+1) cap]] W fun e w'=>e = .returned (.bool (bndB base [] m))∧Below W2.heap.size W2 w'):=fun hf W hW=>by
  obtain⟨s1,s2,s3⟩:=hSW W hW;refine(zPb E W base m _ s1 s2 (by omega) (by omega) hf hm).mono ?_;rintro e w' ⟨rfl,h2⟩;exact⟨rfl,hW.trans (h2.mono hW.size)⟩
 have HNO:Hid (zBg 0 m=true→∀W,Below W2.heap.size W2 W→Calls Tryz.prog 105 #[.slice (some ⟨g,off,none⟩) (n+1) cap] W fun e w'=>e = .returned (.bool (numB m))∧Below W2.heap.size W2 w'):=fun hf W hW=>by
  obtain⟨s1,s2,s3⟩:=hSW W hW;refine(zMi E W m _ s1 s2 hf hm h0).mono ?_;rintro e w' ⟨rfl,h2⟩;exact⟨rfl,hW.trans (h2.mono hW.size)⟩
 have HUO:Hid (zBg 0 m=true→∀W,Below W2.heap.size W2 W→Calls Tryz.prog 106 #[.slice (some ⟨g,off,none⟩) (n+1) cap] W fun e w'=>e = .returned (.bool (decide m.Nodup))∧Below W2.heap.size W2 w'):=fun hf W hW=>by
  obtain⟨s1,s2,s3⟩:=hSW W hW;refine(zRq E W m _ s1 s2 hf hm h0).mono ?_;rintro e w' ⟨rfl,h2⟩;exact⟨rfl,hW.trans (h2.mono hW.size)⟩
 have HRF:Hid (rightB base m=(!rt.final&&zBg 0 m&&bndB base [] m&&numB m&&decide m.Nodup)):=by show _=_;rw[HRR.out,decide_eq_true (by omega)];simp
 have hwrp:IntKind.i64.wrap (((n:Int)+1)-1)=(n:Int):=by rw[IntKind.wrap_i64];omega
 have hnz:(n:Int)<(n:Int)+1:=by omega
 have cA:∀(o:Obj) (j:Nat),(w.alloc o).cell? ⟨g,j,none⟩=w.cell? ⟨g,j,none⟩:=fun o j=>((Below.refl _ w).alloc (Nat.le_refl _) o).cell (p:=⟨g,j,none⟩) (Nat.lt_of_lt_of_le hg hE)
 have c0':=fun o=>(cA o _).trans c0
 have c1':=fun o=>(cA o _).trans c1
 have c2':=fun o=>(cA o _).trans c2
 clear h hT HRR hrt hbw hm2 hr2 hSW c0 c1 c2 cA hA;go_enter Tryz.func66,Tryz.ntmps66;go_upto_region 6 with fail
 rw[←hrb,←hmb,←hW2];clear hrb hmb hW2 c0' c1' c2';generalize zBg 0 m=F at *;generalize bndB base [] m=B at *;generalize numB m=N at *;generalize decide m.Nodup=U at *;generalize rt.final=fn at *;cases fn with
 |true=>
  have HX:Hid (rightB base m=false):=HRF.out;go_wp2;go_ret;exact⟨by rw[HX.out];rfl,HBW.out⟩
 |false=>
 cases F with
 |false=>
  have HX:Hid (rightB base m=false):=HRF.out
  go_wp2_with (first
   |(go_at_call 103;refine(HFO.out _ (Below.refl _ _)).mono ?_;rintro e wa ⟨rfl,hba⟩;have HBa:Hid (Below W2.heap.size W2 wa):=hba;clear hba;obtain⟨p0,p1⟩:=HCL.out wa HBa.out)
   |(go_at_call 104;refine(HBO.out (by simp) _ HBa.out).mono ?_;rintro e wb ⟨rfl,hbb⟩;have HBb:Hid (Below W2.heap.size W2 wb):=hbb;clear hbb;obtain⟨p2,p3⟩:=HCL.out wb HBb.out)
   |(go_at_call 105;refine(HNO.out (by simp) _ HBb.out).mono ?_;rintro e wc ⟨rfl,hbc⟩;have HBc:Hid (Below W2.heap.size W2 wc):=hbc;clear hbc;obtain⟨p4,p5⟩:=HCL.out wc HBc.out)
   |(go_at_call 106;refine(HUO.out (by simp) _ HBc.out).mono ?_;rintro e wd ⟨rfl,hbd⟩;have HBd:Hid (Below W2.heap.size W2 wd):=hbd;clear hbd))
  go_ret;exact⟨by rw[HX.out];rfl,HBW.out.trans (HBa.out.mono HBW.out.size)⟩
 |true=>
 cases B with
 |false=>
  have HX:Hid (rightB base m=false):=HRF.out
  go_wp2_with (first
   |(go_at_call 103;refine(HFO.out _ (Below.refl _ _)).mono ?_;rintro e wa ⟨rfl,hba⟩;have HBa:Hid (Below W2.heap.size W2 wa):=hba;clear hba;obtain⟨p0,p1⟩:=HCL.out wa HBa.out)
   |(go_at_call 104;refine(HBO.out (by simp) _ HBa.out).mono ?_;rintro e wb ⟨rfl,hbb⟩;have HBb:Hid (Below W2.heap.size W2 wb):=hbb;clear hbb;obtain⟨p2,p3⟩:=HCL.out wb HBb.out)
   |(go_at_call 105;refine(HNO.out (by simp) _ HBb.out).mono ?_;rintro e wc ⟨rfl,hbc⟩;have HBc:Hid (Below W2.heap.size W2 wc):=hbc;clear hbc;obtain⟨p4,p5⟩:=HCL.out wc HBc.out)
   |(go_at_call 106;refine(HUO.out (by simp) _ HBc.out).mono ?_;rintro e wd ⟨rfl,hbd⟩;have HBd:Hid (Below W2.heap.size W2 wd):=hbd;clear hbd))
  go_ret;exact⟨by rw[HX.out];rfl,HBW.out.trans (HBb.out.mono HBW.out.size)⟩
 |true=>
 cases N with
 |false=>
  have HX:Hid (rightB base m=false):=HRF.out
  go_wp2_with (first
   |(go_at_call 103;refine(HFO.out _ (Below.refl _ _)).mono ?_;rintro e wa ⟨rfl,hba⟩;have HBa:Hid (Below W2.heap.size W2 wa):=hba;clear hba;obtain⟨p0,p1⟩:=HCL.out wa HBa.out)
   |(go_at_call 104;refine(HBO.out (by simp) _ HBa.out).mono ?_;rintro e wb ⟨rfl,hbb⟩;have HBb:Hid (Below W2.heap.size W2 wb):=hbb;clear hbb;obtain⟨p2,p3⟩:=HCL.out wb HBb.out)
   |(go_at_call 105;refine(HNO.out (by simp) _ HBb.out).mono ?_;rintro e wc ⟨rfl,hbc⟩;have HBc:Hid (Below W2.heap.size W2 wc):=hbc;clear hbc;obtain⟨p4,p5⟩:=HCL.out wc HBc.out)
   |(go_at_call 106;refine(HUO.out (by simp) _ HBc.out).mono ?_;rintro e wd ⟨rfl,hbd⟩;have HBd:Hid (Below W2.heap.size W2 wd):=hbd;clear hbd))
  go_ret;exact⟨by rw[HX.out];rfl,HBW.out.trans (HBc.out.mono HBW.out.size)⟩
 |true=>
  have HX:Hid (rightB base m=U):=HRF.out;cases U with
  |false=>
   go_wp2_with (first
    |(go_at_call 103;refine(HFO.out _ (Below.refl _ _)).mono ?_;rintro e wa ⟨rfl,hba⟩;have HBa:Hid (Below W2.heap.size W2 wa):=hba;clear hba;obtain⟨p0,p1⟩:=HCL.out wa HBa.out)
    |(go_at_call 104;refine(HBO.out (by simp) _ HBa.out).mono ?_;rintro e wb ⟨rfl,hbb⟩;have HBb:Hid (Below W2.heap.size W2 wb):=hbb;clear hbb;obtain⟨p2,p3⟩:=HCL.out wb HBb.out)
    |(go_at_call 105;refine(HNO.out (by simp) _ HBb.out).mono ?_;rintro e wc ⟨rfl,hbc⟩;have HBc:Hid (Below W2.heap.size W2 wc):=hbc;clear hbc;obtain⟨p4,p5⟩:=HCL.out wc HBc.out)
    |(go_at_call 106;refine(HUO.out (by simp) _ HBc.out).mono ?_;rintro e wd ⟨rfl,hbd⟩;have HBd:Hid (Below W2.heap.size W2 wd):=hbd;clear hbd))
   go_ret;exact⟨by rw[HX.out];rfl,HBW.out.trans (HBd.out.mono HBW.out.size)⟩
  |true=>
   go_wp2_with (first
    |(go_at_call 103;refine(HFO.out _ (Below.refl _ _)).mono ?_;rintro e wa ⟨rfl,hba⟩;have HBa:Hid (Below W2.heap.size W2 wa):=hba;clear hba;obtain⟨p0,p1⟩:=HCL.out wa HBa.out)
    |(go_at_call 104;refine(HBO.out (by simp) _ HBa.out).mono ?_;rintro e wb ⟨rfl,hbb⟩;have HBb:Hid (Below W2.heap.size W2 wb):=hbb;clear hbb;obtain⟨p2,p3⟩:=HCL.out wb HBb.out)
    |(go_at_call 105;refine(HNO.out (by simp) _ HBb.out).mono ?_;rintro e wc ⟨rfl,hbc⟩;have HBc:Hid (Below W2.heap.size W2 wc):=hbc;clear hbc;obtain⟨p4,p5⟩:=HCL.out wc HBc.out)
    |(go_at_call 106;refine(HUO.out (by simp) _ HBc.out).mono ?_;rintro e wd ⟨rfl,hbd⟩;have HBd:Hid (Below W2.heap.size W2 wd):=hbd;clear hbd))
   go_ret;exact⟨by rw[HX.out];rfl,HBW.out.trans (HBd.out.mono HBW.out.size)⟩
structure NwAt(w wr:World)(ob:Nat)(base:Int)(vs:Value)(m:List RSt):Prop where
 bel:Below w.heap.size w wr
 lo:w.heap.size≤ob
 blk:wr.heap[ob]?=some (.cells #[.int .i64 base,vs] 39)
 ap:vs.ownBlock≠some ob
 ex:∃xss,GOwn 91 3 w.heap.size wr vs xss∧xss.length=m.length∧∀(i:Nat) (s:RSt),m[i]?=some s→∃va,xss[i]?=some [.bool s.final,.int .i64 s.out,va]∧ArcsAt wr.heap.size wr va s.arcs∧∀g,va.ownBlock=some g→w.heap.size≤g∧g≠ob∧vs.ownBlock≠some g∧g<wr.heap.size
theorem ArcsAt.grow{E:Nat}{w w':World}{v:Value}{l:List RArc}(h:ArcsAt E w v l)(hE:E≤w.heap.size)(hb:Below w.heap.size w w'):ArcsAt w'.heap.size w' v l:=h.upd (F:=fun _=>False) (Upd.of_below hb) hE (fun _ _=>id)
theorem NwAt.below{w wr w':World}{ob:Nat}{base:Int}{vs:Value}{m:List RSt}(h:NwAt w wr ob base vs m)(hb:Below wr.heap.size wr w'):NwAt w w' ob base vs m:=by
 obtain⟨xss,h1,h2,h3⟩:=h.ex;refine⟨h.bel.trans (hb.mono h.bel.size),h.lo,(hb.block ob (Array.getElem?_eq_some_iff.1 h.blk).1).trans h.blk,h.ap,xss,h1.below hb,h2,fun i s hi=>?_⟩;obtain⟨va,e1,e2,e3⟩:=h3 i s hi;exact⟨va,e1,e2.grow (Nat.le_refl _) hb,fun g hg=>by obtain⟨k1,k2,k3,k4⟩:=e3 g hg;exact⟨k1,k2,k3,Nat.lt_of_lt_of_le k4 hb.size⟩⟩
theorem NwAt.facts{w wr:World}{ob:Nat}{base:Int}{vs:Value}{m:List RSt}(h:NwAt w wr ob base vs m):wr.cell? ⟨ob,0,none⟩=some (.int .i64 base)∧wr.cell? ⟨ob,1,none⟩=some vs∧∀o,wr.frozen? ⟨ob,o,none⟩=false:=⟨by simp[World.cell?,h.blk],by simp[World.cell?,h.blk],fun o=>by simp[World.frozen?,h.blk]⟩
theorem NwAt.more{w V3 V4 W':World}{ob:Nat}{base:Int}{vs v' va:Value}{m:List RSt}{s:RSt}{xss:List (List Value)}(h:NwAt w V3 ob base vs m)(hX:GOwn 91 3 w.heap.size V3 vs xss)(hxl:xss.length=m.length)(hxe:∀(i:Nat) (s:RSt),m[i]?=some s→∃va,xss[i]?=some [.bool s.final,.int .i64 s.out,va]∧ArcsAt V3.heap.size V3 va s.arcs∧∀g,va.ownBlock=some g→w.heap.size≤g∧g≠ob∧vs.ownBlock≠some g∧g<V3.heap.size)
 (hva:ArcsAt V3.heap.size V3 va s.arcs) (hvn:∀g,va.ownBlock=some g→w.heap.size≤g∧g≠ob∧vs.ownBlock≠some g∧g<V3.heap.size) (hb4:Below V3.heap.size V3 V4) (ho:GOwn 91 3 w.heap.size W' v' (xss++[[.bool s.final,.int .i64 s.out,va]])) (hg:V4.grownBy W' vs.ownBlock) (hob:v'.ownBlock=vs.ownBlock∨∃g,v'.ownBlock=some g∧V4.heap.size≤g):
 NwAt w (W'.setCell ⟨ob,1,none⟩ v') ob base v' (m++[s])∧W'.cell? ⟨ob,1,none⟩=some vs∧W'.frozen? ⟨ob,1,none⟩=false:=by
 have hol:ob<V3.heap.size:=(Array.getElem?_eq_some_iff.1 h.blk).1;have hu1:Upd (fun j=>vs.ownBlock=some j) V3 W':=(Upd.of_below hb4).trans (G:=fun j=>vs.ownBlock=some j) ⟨hg.os,hg.tape,hg.output,hg.size,fun j hj hn=>hg.block j hj (fun e=>hn e.symm)⟩ (fun _ _ g=>g);have hblk:W'.heap[ob]?=some (.cells #[.int .i64 base,vs] 39):=(hu1.block ob hol h.ap).trans h.blk;obtain⟨s1,s2,s3,s4⟩:=zA3 W' ob 1 v';have hu2:Upd (fun j=>j=ob) W' (W'.setCell ⟨ob,1,none⟩ v'):=⟨s1,s2,s3,by omega,fun k _ hk=>Below.heap_setCell W' ⟨ob,1,none⟩ v' k hk⟩;have hu:Upd (fun j=>vs.ownBlock=some j∨j=ob) V3 (W'.setCell ⟨ob,1,none⟩ v'):=(hu1.mono fun j e => .inl e).trans (hu2.mono fun j e => .inr e) (fun _ _ g=>g);have hap:v'.ownBlock≠some ob:=fun e=>by
  rcases hob with e2|⟨g,e2,h2⟩
  · exact h.ap (e2▸e)
  · rw[e2]at e;cases e;have:=hb4.size;omega
 have hfar:∀g,g<V3.heap.size→vs.ownBlock≠some g→v'.ownBlock≠some g:=fun g hgl hn e=>by
  rcases hob with e2|⟨g2,e2,h2⟩
  · exact hn (e2▸e)
  · rw[e2]at e;cases e;have:=hb4.size;omega
 refine⟨⟨h.bel.trans (hu.below h.bel.size fun j e=>?_),h.lo,by rw[zAu hblk];rfl,hap,xss++[[.bool s.final,.int .i64 s.out,va]],ho.same fun g hg'=>hu2.block g (ho.lt hg') (fun e=>hap (e▸hg')),by simp[hxl],fun i t hi=>?_⟩,by simp[World.cell?,hblk],by simp[World.frozen?,hblk]⟩
 · rcases e with e|e
   · exact(hX.block e).1
   · have:=h.lo;omega
 · by_cases hi2:i<m.length
   · rw[List.getElem?_append_left hi2]at hi
     obtain⟨vb,e1,e2,e3⟩:=hxe i t hi;refine⟨vb,by rw[List.getElem?_append_left (by omega)];exact e1,e2.upd hu (Nat.le_refl _) (fun g hg' e=>?_),fun g hg'=>?_⟩
     · rcases e with e|e
       · exact(e3 g hg').2.2.1 e
       · exact(e3 g hg').2.1 e
     · exact⟨(e3 g hg').1,(e3 g hg').2.1,hfar g (e3 g hg').2.2.2 (e3 g hg').2.2.1,Nat.lt_of_lt_of_le (e3 g hg').2.2.2 hu.size⟩
   · have hi3:i=m.length:=by
      have:=(List.getElem?_eq_some_iff.1 hi).1;simp at this;omega
     subst hi3;rw[List.getElem?_append_right (Nat.le_refl _)]at hi;simp at hi;subst hi;refine⟨va,by rw[List.getElem?_append_right (by omega),hxl];simp,hva.upd hu (Nat.le_refl _) (fun g hg' e=>?_),fun g hg'=>?_⟩
     · rcases e with e|e
       · exact(hvn g hg').2.2.1 e
       · exact(hvn g hg').2.1 e
     · exact⟨(hvn g hg').1,(hvn g hg').2.1,hfar g (hvn g hg').2.2.2 (hvn g hg').2.2.1,Nat.lt_of_lt_of_le (hvn g hg').2.2.2 hu.size⟩
structure S9n(ob:Nat)(base:Int)(vs:Value)(W:World):Prop where
 c0:W.cell? ⟨ob,0,none⟩=some (.int .i64 base)
 c1:W.cell? ⟨ob,1,none⟩=some vs
theorem S9n.facts{ob:Nat}{base:Int}{vs:Value}{W:World}(h:S9n ob base vs W):W.cell? ⟨ob,0,none⟩=some (.int .i64 base)∧W.cell? ⟨ob,1,none⟩=some vs:=⟨h.1,h.2⟩
theorem NwAt.sts{w wr:World}{ob:Nat}{base:Int}{vs:Value}{m:List RSt}(h:NwAt w wr ob base vs m)(hok:∀s∈m,zB3 s.out)(hl:m.length≤9223372036854775807):StsAt wr.heap.size wr vs m:=by
 obtain⟨xss,h1,h2,h3⟩:=h.ex;refine⟨⟨xss,h1.reads,h2,fun i s hi=>?_⟩,hok,hl⟩;obtain⟨va,e1,e2,_⟩:=h3 i s hi;exact⟨va,e1,e2⟩
def WkLo(B:Nat)(w:World)(wb:Nat)(base:Int)(m:List RSt)(cs:List Nat):Prop:=∀W,w.heap.size≤W.heap.size→(∀j,B≤j→j<w.heap.size→W.heap[j]?=w.heap[j]?)→WkAt W.heap.size W wb base m cs
theorem ArcsAt.move{E:Nat}{w w':World}{v:Value}{l:List RArc}(h:ArcsAt E w v l)(hs:∀g,v.ownBlock=some g→w'.heap[g]?=w.heap[g]?)(hl:∀g,v.ownBlock=some g→g<w'.heap.size):ArcsAt w'.heap.size w' v l:=by
 obtain⟨ad,cap,rfl,hc⟩:=h.row.ex;refine⟨⟨ad,cap,rfl,fun h0=>?_⟩,h.ok,h.len⟩;obtain⟨g,off,rfl,hg,hx⟩:=hc h0;exact⟨g,off,rfl,hl g rfl,fun i j x u hi hj=>(World.cell?_of_block (a:=⟨g,off+i*3+j,none⟩) (hs g rfl)).trans (hx i j x u hi hj)⟩
theorem lo_of{w V:World}{ob wb:Nat}{base:Int}{vs vw:Value}{m:List RSt}{cs:List Nat}{B2:Nat}(hN:NwAt w V ob base vs m)(hok:∀s∈m,zB3 s.out)(hl:m.length≤9223372036854775807)(hw:w.heap.size≤wb)(hb:V.heap[wb]?=some (.cells #[.int .i64 base,vs,vw] 121))(hc:GOwn 3 1 B2 V vw (cs.map zEz))(hB2:w.heap.size≤B2):WkLo w.heap.size V wb base m cs:=by
 intro W hs hk;have hwl:=(Array.getElem?_eq_some_iff.1 hb).1;obtain⟨xss,h1,h2,h3⟩:=hN.ex;have g1:GOwn 91 3 w.heap.size W vs xss:=h1.same fun g hg=>hk g (h1.block hg).1 (h1.lt hg)
 have g2:GOwn 3 1 B2 W vw (cs.map zEz):=hc.same fun g hg=>hk g (Nat.le_trans hB2 (hc.block hg).1) (hc.lt hg)
 refine⟨by omega,vs,vw,(hk wb hw hwl).trans hb,⟨⟨xss,g1.reads,h2,fun i s hi=>?_⟩,hok,hl⟩,g2.reads⟩;obtain⟨va,e1,e2,e3⟩:=h3 i s hi;exact⟨va,e1,e2.move (fun g hg=>hk g (e3 g hg).1 (e3 g hg).2.2.2) (fun g hg=>by have:=(e3 g hg).2.2.2;omega)⟩
structure S7n(ob sb:Nat)(vs:Value)(fn:Bool)(ot:Int)(va:Value)(W:World):Prop where
 c1:W.cell? ⟨ob,1,none⟩=some vs
 d0:W.cell? ⟨sb,0,none⟩=some (.bool fn)
 d1:W.cell? ⟨sb,1,none⟩=some (.int .i64 ot)
 d2:W.cell? ⟨sb,2,none⟩=some va
theorem S7n.facts{ob sb:Nat}{vs:Value}{fn:Bool}{ot:Int}{va:Value}{W:World}(h:S7n ob sb vs fn ot va W):W.cell? ⟨ob,1,none⟩=some vs∧W.cell? ⟨sb,0,none⟩=some (.bool fn)∧W.cell? ⟨sb,1,none⟩=some (.int .i64 ot)∧W.cell? ⟨sb,2,none⟩=some va:=⟨h.1,h.2,h.3,h.4⟩
theorem S7n.of{ob sb:Nat}{vs:Value}{fn:Bool}{ot:Int}{va:Value}{W W':World}(h:S7n ob sb vs fn ot va W)(e1:W'.heap[ob]?=W.heap[ob]?)(e2:W'.heap[sb]?=W.heap[sb]?):S7n ob sb vs fn ot va W':=
 ⟨(World.cell?_of_block (a:=⟨ob,1,none⟩) e1).trans h.1,(World.cell?_of_block (a:=⟨sb,0,none⟩) e2).trans h.2,(World.cell?_of_block (a:=⟨sb,1,none⟩) e2).trans h.3,(World.cell?_of_block (a:=⟨sb,2,none⟩) e2).trans h.4⟩
theorem New_yes(E:Nat)(w:World)(base:Int)(b:List St)(D:List (List En))(hI:Inv D b)(hF:∀R∈D,R.length≤4096)(vs:Value)(h:StsAt E w vs (b.map ofSt))(hE:E≤w.heap.size)(hT:Tabs w)(hm:b.length≤1048576)(hr:rightB base (b.map ofSt)=true)(hsm:∀s∈b.map ofSt,s.arcs.length≤1114112):
 Calls Tryz.prog 41 #[.agg #[.int .i64 base,vs]] w fun e w'=>∃wb,e = .returned (.tuple #[.pointer (some ⟨wb,0,none⟩),.bool true])∧w.heap.size≤wb∧WkLo w.heap.size w' wb base (b.map ofSt) (D.map List.length)∧Below w.heap.size w w':=by
 obtain⟨m,hmm⟩:∃m,b.map ofSt=m:=⟨_,rfl⟩;have HMM:Hid (b.map ofSt=m):=hmm;rw[hmm]at h hr hsm ⊢;have hml:m.length≤1048576:=by rw[←hmm,List.length_map];exact hm
 obtain⟨ad,cap,rfl⟩:=h.shape;obtain⟨n,hn⟩:∃n,m.length=n:=⟨_,rfl⟩;have HN:Hid (m.length=n):=hn;rw[hn]at h hml ⊢;obtain⟨W1,hW1⟩:∃W1,W1=w.alloc (.cells #[.int .i64 base,.slice ad n cap] 39):=⟨_,rfl⟩;have hb1:Below w.heap.size w W1:=by rw[hW1];exact(Below.refl _ w).alloc (Nat.le_refl _) _
 obtain⟨mb,hmb⟩:∃mb,mb=w.heap.size:=⟨_,rfl⟩;have hn1:W1.heap[mb]?=some (.cells #[.int .i64 base,.slice ad n cap] 39):=by rw[hW1,hmb];exact zAb _ _
 have HRA:Hid (Calls Tryz.prog 66 #[.agg #[.int .i64 base,.slice ad n cap]] W1 fun e w'=>e = .returned (.bool true)∧Below W1.heap.size W1 w'):=by
  have:=zXp E W1 base m _ (h.below (hb1.mono hE)) (Nat.le_trans hE hb1.size) (hT.below hb1) (by omega);rw[hr]at this;exact this
 have HB1:Hid (Below w.heap.size w W1):=hb1;have HN1:Hid (W1.heap[mb]?=some (.cells #[.int .i64 base,.slice ad n cap] 39)):=hn1;have HH:Hid (StsAt E w (.slice ad n cap) m):=h;have hOK:=h.ok;have c0:W1.cell? ⟨mb,0,none⟩=some (.int .i64 base):=by simp[World.cell?,hn1]
 have c1:W1.cell? ⟨mb,1,none⟩=some (.slice ad n cap):=by simp[World.cell?,hn1]
 clear h hT hb1 hn1 hn hmm hr;go_enter Tryz.func41,Tryz.ntmps41;go_upto_region 1 with fail
 rw[←hmb,←hW1];have HMB:Hid (mb=w.heap.size):=hmb;clear hW1 hmb;go_upto_region 3 with(go_at_call 66;refine HRA.out.mono ?_;rintro e w2 ⟨rfl,hb2⟩)
 clear c0 c1;have hk2:w2.heap[mb]?=some (.cells #[.int .i64 base,.slice ad n cap] 39):=(hb2.block mb (Array.getElem?_eq_some_iff.1 HN1.out).1).trans HN1.out;have c0:w2.cell? ⟨mb,0,none⟩=some (.int .i64 base):=by simp[World.cell?,hk2]
 have c1:w2.cell? ⟨mb,1,none⟩=some (.slice ad n cap):=by simp[World.cell?,hk2]
 have hmb2:=(Array.getElem?_eq_some_iff.1 hk2).1;obtain⟨ob,hob⟩:∃ob,ob=w2.heap.size:=⟨_,rfl⟩;obtain⟨W3,hW3⟩:∃W3,W3=w2.alloc (.cells #[.int .i64 base,.slice none 0 0] 39):=⟨_,rfl⟩;have hb3:Below w2.heap.size w2 W3:=by rw[hW3];exact(Below.refl _ w2).alloc (Nat.le_refl _) _
 have hbw2:Below w.heap.size w w2:=HB1.out.trans (hb2.mono HB1.out.size);have HW3:Hid (NwAt w W3 ob base (.slice none 0 0) (m.take 0)):=⟨hbw2.trans (hb3.mono hbw2.size),by have:=hbw2.size;omega,by rw[hW3,hob];exact zAb _ _,fun e=>(by cases e),[],GOwn.nil _ _ _ _,rfl,fun i s hi=>(by simp at hi)⟩;have c1':W3.cell? ⟨mb,1,none⟩=some (.slice ad n cap):=(hb3.cell (p:=⟨mb,1,none⟩) hmb2).trans c1;clear hk2 hb3 hbw2 hb2;go_upto_region 4 with fail
 rw[←hob,←hW3];clear hob hW3 c0 c1;go_wp2
 go_loopg [6,16] n (fun gm _ s16 wr=>∃(k:Nat) (vs2:Value),s16 = .int .i64 k∧k≤n∧n-k≤gm∧Hid (NwAt w wr ob base vs2 (m.take k)))
 case atStart=>exact⟨0,_,by go_num,Nat.zero_le _,by omega,HW3⟩
 case round=>
  obtain⟨k,vs2,rfl,hk,hgm,HNW⟩:=hrel;obtain⟨vd,vn,vc,hvv⟩:∃vd vn vc,vs2 = .slice vd vn vc:=by
   obtain⟨xss,h1,_⟩:=HNW.out.ex;obtain⟨ad,cap,e,_⟩:=h1.shape;exact⟨_,_,_,e⟩
  subst hvv;by_cases hlt:k<n
  · have hltz:(k:Int)<(n:Int):=by omega
    obtain⟨s,hs⟩:∃s,m[k]?=some s:=⟨m[k]'(by have:=HN.out;omega),List.getElem?_eq_getElem _⟩;obtain⟨g,off,va,hgd,hg,x0,x1,x2,hA⟩:=HH.out.at hs;obtain⟨wa,wc,hva⟩:=hA.shape;obtain⟨na,hna⟩:∃na,s.arcs.length=na:=⟨_,rfl⟩;have HNA:Hid (s.arcs.length=na):=hna;rw[hna]at hva;subst hva;subst hgd;have hbl:=HNW.out.bel;have u0:wr.cell? ⟨g,off+k*3,none⟩=some (.bool s.final):=(hbl.cell (p:=⟨g,off+k*3,none⟩) (Nat.lt_of_lt_of_le hg hE)).trans x0;have u1:wr.cell? ⟨g,off+k*3+1,none⟩=some (.int .i64 s.out):=(hbl.cell (p:=⟨g,off+k*3+1,none⟩) (Nat.lt_of_lt_of_le hg hE)).trans x1;have u2:wr.cell? ⟨g,off+k*3+2,none⟩=some (.slice wa na wc):=(hbl.cell (p:=⟨g,off+k*3+2,none⟩) (Nat.lt_of_lt_of_le hg hE)).trans x2;obtain⟨sb,hsb⟩:∃sb,sb=wr.heap.size:=⟨_,rfl⟩;obtain⟨W6,hW6⟩:∃W6,W6=wr.alloc (.cells #[.bool s.final,.int .i64 s.out,.slice wa na wc] 91):=⟨_,rfl⟩;(have hb6:Below wr.heap.size wr W6:=by rw[hW6];exact(Below.refl _ wr).alloc (Nat.le_refl _) _);(have hn6:W6.heap[sb]?=some (.cells #[.bool s.final,.int .i64 s.out,.slice wa na wc] 91):=by rw[hW6,hsb];exact zAb _ _);obtain⟨V3,hV3⟩:∃V3,V3=W6.drew:=⟨_,rfl⟩;(have hb3:Below wr.heap.size wr V3:=by rw[hV3];exact hb6.drew);(have hn3:V3.heap[sb]?=some (.cells #[.bool s.final,.int .i64 s.out,.slice wa na wc] 91):=by rw[hV3];exact hn6);have HN3:Hid (NwAt w V3 ob base (.slice vd vn vc) (m.take k)):=HNW.out.below hb3;have HSBG:Hid (sb=wr.heap.size):=hsb;have hob3:=(Array.getElem?_eq_some_iff.1 HN3.out.blk).1;have hsb3:=(Array.getElem?_eq_some_iff.1 hn3).1;have hS0:S7n ob sb (.slice vd vn vc) s.final s.out (.slice wa na wc) V3:=⟨HN3.out.facts.2.1,by simp[World.cell?,hn3],by simp[World.cell?,hn3],by simp[World.cell?,hn3]⟩
    have HCL:Hid (Calls Tryz.prog 67 #[.agg #[.bool s.final,.int .i64 s.out,.slice wa na wc]] V3 fun e w'=>∃v',e = .returned (.agg #[.bool s.final,.int .i64 s.out,v'])∧(∃ad cap,v' = .slice ad s.arcs.length cap)∧ArcsAt w'.heap.size w' v' s.arcs∧(∀g,v'.ownBlock=some g→V3.heap.size≤g∧g<w'.heap.size)∧Below V3.heap.size V3 w'):=
     zJp E V3 s _ (hA.below (HN3.out.bel.mono hE)) (Nat.le_trans hE HN3.out.bel.size) (hsm s (List.mem_of_getElem? hs))
    (have HST:Hid (m.take (k+1)=m.take k++[s]):=by show _=_;rw[List.take_add_one,hs];rfl);clear hb6 hn6 hb3 x0 x1 x2 hA hna hbl hs;(go_upto_region 7 with fail);rw[←hsb,←hW6];clear hsb hW6 u0 u1 u2;have hS0':S7n ob sb (.slice vd vn vc) s.final s.out (.slice wa na wc) W6.drew:=hV3▸hS0;refine zBd (S:=S7n ob sb (.slice vd vn vc) s.final s.out (.slice wa na wc)) 8 7 rfl zAn ?_;rw[←hV3];clear hS0' hV3;refine te2 S7n.facts 0 20 1 21 ?_;simp only[sZa,sZb,sZc];refine te S7n.facts 2 22 ?_;simp only[sZa,sZb,sZc];refine zFl (i:=3) (w0:=V3) 23 67 #[.agg #[.bool s.final,.int .i64 s.out,.slice wa na wc]] (by kernel_rfl) rfl rfl (by rfl) (by kernel_rfl) ?_;refine HCL.out.mono ?_;rintro e V5 ⟨v5,rfl,⟨ad5,cap5,hv5⟩,hA5,hg5,hb5⟩;rw[HNA.out]at hv5;subst hv5;have hS5:S7n ob sb (.slice vd vn vc) s.final s.out (.slice wa na wc) V5:=hS0.of (hb5.block ob hob3) (hb5.block sb hsb3);have HN5:Hid (NwAt w V5 ob base (.slice vd vn vc) (m.take k)):=HN3.out.below hb5;refine⟨_,rfl,hS5,?_⟩;simp only[sZa,sZb,sZc];obtain⟨V4,hV4⟩:∃V4,V4=V5.alloc (.cells #[.bool s.final,.int .i64 s.out,.slice ad5 na cap5] 91):=⟨_,rfl⟩;(have hb4:Below V5.heap.size V5 V4:=by rw[hV4];exact(Below.refl _ V5).alloc (Nat.le_refl _) _);(have hn4:V4.heap[V5.heap.size]?=some (.cells #[.bool s.final,.int .i64 s.out,.slice ad5 na cap5] 91):=by rw[hV4];exact zAb _ _);obtain⟨xss,hX,hxl,hxe⟩:=HN5.out.ex;obtain⟨v',W',hap,ho',hgr,hobk⟩:=zAw rtyS (GOwn.below hX hb4) (Nat.le_trans HN5.out.bel.size hb4.size) (x:=[.bool s.final,.int .i64 s.out,.slice ad5 na cap5]) ⟨rfl,by simp[Value.oneCell']⟩ (nb:=V5.heap.size) (fun j u hj=>by simp only[World.cell?,hn4];simpa using hj) (by rw[hxl,List.length_take];omega) 37 1;obtain⟨vd2,vn2,vc2,hvv2⟩:∃vd vn vc,v' = .slice vd vn vc:=by
     obtain⟨ad,cap,e,_⟩:=GOwn.shape ho';exact⟨_,_,_,e⟩
    subst hvv2;have hsz35:=hb5.size;obtain⟨hNW,hc1,hfz⟩:=HN5.out.more hX hxl hxe hA5 (fun g hg=>by
     obtain⟨k1,k2⟩:=hg5 g hg;refine⟨Nat.le_trans HN3.out.bel.size k1,by omega,fun e=>?_,k2⟩;obtain⟨ys,hY,_⟩:=HN3.out.ex;have:=hY.lt e;omega) hb4 ho' hgr hobk
    have hb45:S7n ob sb (.slice vd vn vc) s.final s.out (.slice wa na wc) V4:=hS5.of (hb4.block ob (by omega)) (hb4.block sb (by omega));have hvsb:(Value.slice vd vn vc).ownBlock≠some sb:=fun e=>by
     obtain⟨ys,hY,_⟩:=HNW.out.ex;have h1:=hY.lt e;have h2:=HSBG.out;omega
    have hS6:S7n ob sb (.slice vd vn vc) s.final s.out (.slice wa na wc) W':=hb45.of (hgr.block ob (by have:=hb4.size;omega) (fun e=>HN5.out.ap e.symm)) (hgr.block sb (by have:=hb4.size;omega) (fun e=>hvsb e.symm));obtain⟨W8,hW8⟩:∃W8,W8=W'.setCell ⟨ob,1,none⟩ (.slice vd2 vn2 vc2):=⟨_,rfl⟩;(have HNX:Hid (NwAt w W8 ob base (.slice vd2 vn2 vc2) (m.take (k+1))):=by rw[hW8,HST.out];exact hNW);have HAP2:Hid ((Builtin.append_ #[37,37] 37 #[.slice vd vn vc,.slice (some ⟨V5.heap.size,0,none⟩) 1 1]).run Tryz.prog V4 = .ok (.slice vd2 vn2 vc2) W'):=hap;clear hap ho' hgr hobk hNW hn4 hb4 hX hxl hxe hA5 hg5 hb5 hvsb;refine zAe (i:=4) (v := .slice (some ⟨V5.heap.size,0,none⟩) 1 1) (w':=V4) 24 (by kernel_rfl) rfl rfl (by rfl) (by rw[hV4];go_simp;first|done|exact rfl) hb45 ?_;simp only[sZa,sZb,sZc];refine zAe (i:=5) (v := .slice vd2 vn2 vc2) (w':=W') 25 (by kernel_rfl) rfl rfl (by rfl) (zCi HAP2.out) hS6 ?_;simp only[sZa,sZb,sZc];refine zAe (i:=6) (v := .pointer (some ⟨ob,1,none⟩)) (w':=W') 26 (by kernel_rfl) rfl rfl (by rfl) (by kernel_rfl) hS6 ?_;simp only[sZa,sZb,sZc];refine zA6 (w':=W8) (by kernel_rfl) rfl rfl (by rfl) (by rw[hW8];go_simp;first|done|exact rfl) (by kernel_rfl) ?_;clear hV4 hW8 hc1 hfz hb45 hS6 hS5 hS0;go_wp2;go_roundg (n-(k+1));(case measure=>omega);case rel=>exact⟨k+1,_,by go_num,by omega,Nat.le_refl _,HNX⟩
  · have hltz:¬(k:Int)<(n:Int):=by omega
    (have hkn:k=n:=by omega);subst hkn;have HNF:Hid (NwAt w wr.drew ob base (.slice vd vn vc) m):=by
     have e:m.take k=m:=List.take_of_length_le (by rw[HN.out];exact Nat.le_refl _);have:=HNW.out.below (Below.refl _ wr).drew;rw[e]at this;exact this
    have hS9:S9n ob base (.slice vd vn vc) wr.drew:=⟨HNF.out.facts.1,HNF.out.facts.2.1⟩
    have HCO:Hid (Calls Tryz.prog 68 #[.slice vd vn vc] wr.drew fun e w'=>∃vw,e = .returned vw∧CtAt wr.drew.heap.size wr.drew w' vw (D.map List.length)):=
     zOz wr.drew.heap.size wr.drew b D hI hF _ (by rw[HMM.out];exact HNF.out.sts hOK (by have:=HN.out;omega)) (Nat.le_refl _) hm
    have hobr:=(Array.getElem?_eq_some_iff.1 HNF.out.blk).1;(go_upto_region 9 with fail);refine zAf (S:=S9n ob base (.slice vd vn vc)) 8 rfl zAn hS9 (fun _=>?_);refine tq2 S9n.facts 0 28 1 29 ?_;simp only[sZa,sZb,sZc];refine tq S9n.facts 2 30 ?_;simp only[sZa,sZb,sZc];refine oc 3 wr.drew 31 68 #[.slice vd vn vc] ?_;refine HCO.out.mono ?_;rintro e V5 ⟨vw,rfl,hct⟩;(obtain⟨wd,wn,wc,hvw⟩:∃a n c,vw=Value.slice a n c:=by obtain⟨a,c,e,_⟩:=hct.own.shape;exact⟨_,_,_,e⟩);subst hvw;have HN5:Hid (NwAt w V5 ob base (.slice vd vn vc) m):=HNF.out.below hct.bel;have hS5:S9n ob base (.slice vd vn vc) V5:=⟨HN5.out.facts.1,HN5.out.facts.2.1⟩;refine⟨_,rfl,hS5,fun _=>?_⟩;simp only[sZa,sZb,sZc];obtain⟨V6,hV6⟩:∃V6,V6=V5.alloc (.cells #[.int .i64 base,.slice vd vn vc,.slice wd wn wc] 121):=⟨_,rfl⟩;(have hb6:Below V5.heap.size V5 V6:=by rw[hV6];exact(Below.refl _ V5).alloc (Nat.le_refl _) _);(have hn6:V6.heap[V5.heap.size]?=some (.cells #[.int .i64 base,.slice vd vn vc,.slice wd wn wc] 121):=by rw[hV6];exact zAb _ _);have HN6:Hid (NwAt w V6 ob base (.slice vd vn vc) m):=HN5.out.below hb6;have hS6:S9n ob base (.slice vd vn vc) V6:=⟨HN6.out.facts.1,HN6.out.facts.2.1⟩;have hsd:w.heap.size≤wr.drew.heap.size:=HNF.out.bel.size;have HWF:Hid (WkLo w.heap.size V6 V5.heap.size base m (D.map List.length)):=lo_of HN6.out hOK (by have:=HN.out;omega) HN5.out.bel.size hn6 (hct.below hb6).own hsd;have HLO:Hid (w.heap.size≤V5.heap.size):=HN5.out.bel.size;clear hct hb6 hn6 hS9 hS5;refine tq S9n.facts 4 32 ?_;simp only[sZa,sZb,sZc];refine zAo (i:=5) (v := .pointer (some ⟨V5.heap.size,0,none⟩)) (w':=V6) 33 (by kernel_rfl) rfl rfl (by rfl) (by rw[hV6];go_simp;first|done|exact rfl) hS6 (fun _=>?_);simp only[sZa,sZb,sZc];refine tq2 S9n.facts 6 2 7 3 ?_;simp only[sZa,sZb,sZc];refine wpAnyH_done (by kernel_rfl) ?_ _;clear hV6 hS6;go_wp2;go_ret2;exact⟨_,rfl,HLO.out,HWF.out,HN6.out.bel⟩
end
