import Derived.Test.YtobjpljdgieklaaGreatDoorJ32
import Derived.Test.YtobjpljdgieklaaGreatDoorPkNum
import Derived.Test.YtobjpljdgieklaaGreatDoorJ33
import Derived.Test.YtobjpljdgieklaaGreatDoorJ27
import Derived.Laws.OwnMore
set_option maxRecDepth 100000
namespace Go.Proofs.YtobjpljdgieklaaGreatDoor
section
open Go.RowKit Nums Fm Pk
set_option maxHeartbeats 4000000 in
theorem zYf(E:Nat)(w:World)(base:Int)(m:List RSt)(vs:Value)(h:StsAt E w vs m)(hE:E≤w.heap.size)(hT:Tabs w)(hm:m.length≤1048576):
 Calls Tryz.prog 66 #[.agg #[.int .i64 base,vs]] w fun e w'=>e = .returned (.bool (rightB base m))∧Below w.heap.size w w':=by
 obtain⟨ad,cap,rfl⟩:=h.shape;have HB0:Hid (∀o,Below w.heap.size w (w.alloc o)):=fun o=>(Below.refl _ w).alloc (Nat.le_refl _) o
 by_cases h0:m=[]
 · have HR:Hid (rightB base m=decide (base=0)):=by show _=_;rw[rightB,if_pos h0]
   (have hl:m.length=0:=by rw[h0];rfl);rw[hl];clear h hT hl h0;go_enter Tryz.func66,Tryz.ntmps66;by_cases hb:base=0
   · subst hb
     go_wp2;go_ret;exact⟨by rw[HR.out];rfl,HB0.out _⟩
   · have h1b:(base==0)=false:=beq_eq_false_iff_ne.2 hb
     go_wp2;go_ret;exact⟨by rw[HR.out,decide_eq_false hb];rfl,HB0.out _⟩
 have hpos:=List.length_pos_iff.2 h0;obtain⟨n,hn⟩:∃n,m.length=n+1:=⟨m.length-1,by omega⟩;have HN:Hid (m.length=n+1):=hn;obtain⟨rt,hrt⟩:∃rt,m[n]?=some rt:=⟨m[n]'(by omega),List.getElem?_eq_getElem _⟩;have HRR:Hid (rightB base m=(decide (1≤base∧base≤1048576)&&!rt.final&&zA5 0 m&&bndB base [] m&&numB m&&decide m.Nodup)):=by
  show _=_;rw[rightB,if_neg h0,show m.length-1=n by omega,List.getD_eq_getElem?_getD,hrt];rfl
 have hn0:(((n:Int)+1)==0)=false:=beq_eq_false_iff_ne.2 (by omega);rw[hn]at h ⊢;obtain⟨g,off,va,rfl,hg,c0,c1,c2,hA⟩:=h.at hrt;obtain⟨vd,vc,hva⟩:=hA.shape;obtain⟨na,hna⟩:∃na,rt.arcs.length=na:=⟨_,rfl⟩;rw[hna]at hva;subst hva;have HS:Hid (StsAt E w (.slice (some ⟨g,off,none⟩) (n+1) cap) m):=h;by_cases hb1:base<1
 · have HF:Hid (rightB base m=false):=by show _=_;rw[HRR.out,decide_eq_false (by omega)];rfl
   clear h hT HRR hrt;go_enter Tryz.func66,Tryz.ntmps66;go_wp2;go_ret;exact⟨by rw[HF.out];rfl,HB0.out _⟩
 by_cases hb2:1048576<base
 · have HF:Hid (rightB base m=false):=by show _=_;rw[HRR.out,decide_eq_false (by omega)];rfl
   clear h hT HRR hrt;go_enter Tryz.func66,Tryz.ntmps66;go_wp2;go_ret;exact⟨by rw[HF.out];rfl,HB0.out _⟩
 obtain⟨mb,hmb⟩:∃mb,mb=w.heap.size:=⟨_,rfl⟩;obtain⟨rb,hrb⟩:∃rb,rb=w.heap.size+1:=⟨_,rfl⟩;obtain⟨W2,hW2⟩:∃W2,W2=(w.alloc (.cells #[.int .i64 base,.slice (some ⟨g,off,none⟩) (n+1) cap] 39)).alloc (.cells #[.bool rt.final,.int .i64 rt.out,.slice vd na vc] 91):=⟨_,rfl⟩;have hbw:Below w.heap.size w W2:=by rw[hW2];exact((Below.refl _ w).alloc (Nat.le_refl _) _).alloc (by simp) _
 have hm2:W2.heap[mb]?=some (.cells #[.int .i64 base,.slice (some ⟨g,off,none⟩) (n+1) cap] 39):=by
  rw[hW2,(MapKept.heap_alloc _ _).2 mb (by rw[hmb];simp),hmb];exact zAb _ _
 have hr2:W2.heap[rb]?=some (.cells #[.bool rt.final,.int .i64 rt.out,.slice vd na vc] 91):=by
  have e:(w.alloc (.cells #[.int .i64 base,.slice (some ⟨g,off,none⟩) (n+1) cap] 39)).heap.size=rb:=by rw[hrb];simp
  rw[hW2,←e];exact zAb _ _
 have HBW:Hid (Below w.heap.size w W2):=hbw;have HCL:Hid (∀W,Below W2.heap.size W2 W→W.cell? ⟨mb,0,none⟩=some (.int .i64 base)∧W.cell? ⟨mb,1,none⟩=some (.slice (some ⟨g,off,none⟩) (n+1) cap)):=fun W hW=>by
  have h1:W.heap[mb]?=W2.heap[mb]?:=hW.block mb (Array.getElem?_eq_some_iff.1 hm2).1;exact⟨by simp[World.cell?,h1,hm2],by simp[World.cell?,h1,hm2]⟩
 have r0:W2.cell? ⟨rb,0,none⟩=some (.bool rt.final):=by simp[World.cell?,hr2]
 obtain⟨m0,m1⟩:=HCL.out W2 (Below.refl _ _);have hSW:∀W,Below W2.heap.size W2 W→StsAt E W (.slice (some ⟨g,off,none⟩) (n+1) cap) m∧E≤W.heap.size∧Tabs W:=fun W hW=>by
  have hb:=hbw.trans (hW.mono hbw.size);exact⟨h.below (hb.mono hE),Nat.le_trans hE hb.size,hT.below hb⟩
 have HFO:Hid (∀W,Below W2.heap.size W2 W→Calls Tryz.prog 103 #[.slice (some ⟨g,off,none⟩) (n+1) cap] W fun e w'=>e = .returned (.bool (zA5 0 m))∧Below W2.heap.size W2 w'):=fun W hW=>by
  obtain⟨s1,s2,s3⟩:=hSW W hW;refine(zSu E W m _ s1 s2 s3).mono ?_;rintro e w' ⟨rfl,h2⟩;exact⟨rfl,hW.trans (h2.mono hW.size)⟩
 have HBO:Hid (zA5 0 m=true→∀W,Below W2.heap.size W2 W→Calls Tryz.prog 104 #[.agg #[.int .i64 base,.slice (some ⟨g,off,none⟩) (n+1) cap]] W fun e w'=>e = .returned (.bool (bndB base [] m))∧Below W2.heap.size W2 w'):=fun hf W hW=>by
  obtain⟨s1,s2,s3⟩:=hSW W hW;refine(zPl E W base m _ s1 s2 (by omega) (by omega) hf hm).mono ?_;rintro e w' ⟨rfl,h2⟩;exact⟨rfl,hW.trans (h2.mono hW.size)⟩
 have HNO:Hid (zA5 0 m=true→∀W,Below W2.heap.size W2 W→Calls Tryz.prog 105 #[.slice (some ⟨g,off,none⟩) (n+1) cap] W fun e w'=>e = .returned (.bool (numB m))∧Below W2.heap.size W2 w'):=fun hf W hW=>by
  obtain⟨s1,s2,s3⟩:=hSW W hW;refine(zMn E W m _ s1 s2 hf hm h0).mono ?_;rintro e w' ⟨rfl,h2⟩;exact⟨rfl,hW.trans (h2.mono hW.size)⟩
 have HUO:Hid (zA5 0 m=true→∀W,Below W2.heap.size W2 W→Calls Tryz.prog 106 #[.slice (some ⟨g,off,none⟩) (n+1) cap] W fun e w'=>e = .returned (.bool (decide m.Nodup))∧Below W2.heap.size W2 w'):=fun hf W hW=>by
  obtain⟨s1,s2,s3⟩:=hSW W hW;refine(zRz E W m _ s1 s2 hf hm h0).mono ?_;rintro e w' ⟨rfl,h2⟩;exact⟨rfl,hW.trans (h2.mono hW.size)⟩
 have HRF:Hid (rightB base m=(!rt.final&&zA5 0 m&&bndB base [] m&&numB m&&decide m.Nodup)):=by show _=_;rw[HRR.out,decide_eq_true (by omega)];simp
 have hwrp:IntKind.i64.wrap (((n:Int)+1)-1)=(n:Int):=by rw[IntKind.wrap_i64];omega
 have hnz:(n:Int)<(n:Int)+1:=by omega
 have cA:∀(o:Obj) (j:Nat),(w.alloc o).cell? ⟨g,j,none⟩=w.cell? ⟨g,j,none⟩:=fun o j=>((Below.refl _ w).alloc (Nat.le_refl _) o).cell (p:=⟨g,j,none⟩) (Nat.lt_of_lt_of_le hg hE)
 have c0':=fun o=>(cA o _).trans c0
 have c1':=fun o=>(cA o _).trans c1
 have c2':=fun o=>(cA o _).trans c2
 clear h hT HRR hrt hbw hm2 hr2 hSW c0 c1 c2 cA hA;go_enter Tryz.func66,Tryz.ntmps66;go_upto_region 6 with fail
 rw[←hrb,←hmb,←hW2];clear hrb hmb hW2 c0' c1' c2';generalize zA5 0 m=F at *;generalize bndB base [] m=B at *;generalize numB m=N at *;generalize decide m.Nodup=U at *;generalize rt.final=fn at *;cases fn with
 |true=>
  have HX:Hid (rightB base m=false):=HRF.out;go_wp2;go_ret;exact⟨by rw[HX.out];rfl,HBW.out⟩
 |false=>
 cases F with
 |false=>
  have HX:Hid (rightB base m=false):=HRF.out
  go_wp2_with (first
   |(go_at_call 103;refine(HFO.out _ (Below.refl _ _)).mono ?_;rintro e wa ⟨rfl,hba⟩;have HBa:Hid (Below W2.heap.size W2 wa):=hba;clear hba;obtain⟨p0,p1⟩:=HCL.out wa HBa.out)
   |(go_at_call 104;refine(HBO.out (by simp) _ HBa.out).mono ?_;rintro e wb ⟨rfl,hbb⟩;have HBb:Hid (Below W2.heap.size W2 wb):=hbb;clear hbb;obtain⟨p2,p3⟩:=HCL.out wb HBb.out)
   |(go_at_call 105;refine(HNO.out (by simp) _ HBb.out).mono ?_;rintro e wc ⟨rfl,hbc⟩;have HBc:Hid (Below W2.heap.size W2 wc):=hbc;clear hbc;obtain⟨p4,p5⟩:=HCL.out wc HBc.out)
   |(go_at_call 106;refine(HUO.out (by simp) _ HBc.out).mono ?_;rintro e wd ⟨rfl,hbd⟩;have HBd:Hid (Below W2.heap.size W2 wd):=hbd;clear hbd))
  go_ret;exact⟨by rw[HX.out];rfl,HBW.out.trans (HBa.out.mono HBW.out.size)⟩
 |true=>
 cases B with
 |false=>
  have HX:Hid (rightB base m=false):=HRF.out
  go_wp2_with (first
   |(go_at_call 103;refine(HFO.out _ (Below.refl _ _)).mono ?_;rintro e wa ⟨rfl,hba⟩;have HBa:Hid (Below W2.heap.size W2 wa):=hba;clear hba;obtain⟨p0,p1⟩:=HCL.out wa HBa.out)
   |(go_at_call 104;refine(HBO.out (by simp) _ HBa.out).mono ?_;rintro e wb ⟨rfl,hbb⟩;have HBb:Hid (Below W2.heap.size W2 wb):=hbb;clear hbb;obtain⟨p2,p3⟩:=HCL.out wb HBb.out)
   |(go_at_call 105;refine(HNO.out (by simp) _ HBb.out).mono ?_;rintro e wc ⟨rfl,hbc⟩;have HBc:Hid (Below W2.heap.size W2 wc):=hbc;clear hbc;obtain⟨p4,p5⟩:=HCL.out wc HBc.out)
   |(go_at_call 106;refine(HUO.out (by simp) _ HBc.out).mono ?_;rintro e wd ⟨rfl,hbd⟩;have HBd:Hid (Below W2.heap.size W2 wd):=hbd;clear hbd))
  go_ret;exact⟨by rw[HX.out];rfl,HBW.out.trans (HBb.out.mono HBW.out.size)⟩
 |true=>
 cases N with
 |false=>
  have HX:Hid (rightB base m=false):=HRF.out
  go_wp2_with (first
   |(go_at_call 103;refine(HFO.out _ (Below.refl _ _)).mono ?_;rintro e wa ⟨rfl,hba⟩;have HBa:Hid (Below W2.heap.size W2 wa):=hba;clear hba;obtain⟨p0,p1⟩:=HCL.out wa HBa.out)
   |(go_at_call 104;refine(HBO.out (by simp) _ HBa.out).mono ?_;rintro e wb ⟨rfl,hbb⟩;have HBb:Hid (Below W2.heap.size W2 wb):=hbb;clear hbb;obtain⟨p2,p3⟩:=HCL.out wb HBb.out)
   |(go_at_call 105;refine(HNO.out (by simp) _ HBb.out).mono ?_;rintro e wc ⟨rfl,hbc⟩;have HBc:Hid (Below W2.heap.size W2 wc):=hbc;clear hbc;obtain⟨p4,p5⟩:=HCL.out wc HBc.out)
   |(go_at_call 106;refine(HUO.out (by simp) _ HBc.out).mono ?_;rintro e wd ⟨rfl,hbd⟩;have HBd:Hid (Below W2.heap.size W2 wd):=hbd;clear hbd))
  go_ret;exact⟨by rw[HX.out];rfl,HBW.out.trans (HBc.out.mono HBW.out.size)⟩
 |true=>
  have HX:Hid (rightB base m=U):=HRF.out;cases U with
  |false=>
   go_wp2_with (first
    |(go_at_call 103;refine(HFO.out _ (Below.refl _ _)).mono ?_;rintro e wa ⟨rfl,hba⟩;have HBa:Hid (Below W2.heap.size W2 wa):=hba;clear hba;obtain⟨p0,p1⟩:=HCL.out wa HBa.out)
    |(go_at_call 104;refine(HBO.out (by simp) _ HBa.out).mono ?_;rintro e wb ⟨rfl,hbb⟩;have HBb:Hid (Below W2.heap.size W2 wb):=hbb;clear hbb;obtain⟨p2,p3⟩:=HCL.out wb HBb.out)
    |(go_at_call 105;refine(HNO.out (by simp) _ HBb.out).mono ?_;rintro e wc ⟨rfl,hbc⟩;have HBc:Hid (Below W2.heap.size W2 wc):=hbc;clear hbc;obtain⟨p4,p5⟩:=HCL.out wc HBc.out)
    |(go_at_call 106;refine(HUO.out (by simp) _ HBc.out).mono ?_;rintro e wd ⟨rfl,hbd⟩;have HBd:Hid (Below W2.heap.size W2 wd):=hbd;clear hbd))
   go_ret;exact⟨by rw[HX.out];rfl,HBW.out.trans (HBd.out.mono HBW.out.size)⟩
  |true=>
   go_wp2_with (first
    |(go_at_call 103;refine(HFO.out _ (Below.refl _ _)).mono ?_;rintro e wa ⟨rfl,hba⟩;have HBa:Hid (Below W2.heap.size W2 wa):=hba;clear hba;obtain⟨p0,p1⟩:=HCL.out wa HBa.out)
    |(go_at_call 104;refine(HBO.out (by simp) _ HBa.out).mono ?_;rintro e wb ⟨rfl,hbb⟩;have HBb:Hid (Below W2.heap.size W2 wb):=hbb;clear hbb;obtain⟨p2,p3⟩:=HCL.out wb HBb.out)
    |(go_at_call 105;refine(HNO.out (by simp) _ HBb.out).mono ?_;rintro e wc ⟨rfl,hbc⟩;have HBc:Hid (Below W2.heap.size W2 wc):=hbc;clear hbc;obtain⟨p4,p5⟩:=HCL.out wc HBc.out)
    |(go_at_call 106;refine(HUO.out (by simp) _ HBc.out).mono ?_;rintro e wd ⟨rfl,hbd⟩;have HBd:Hid (Below W2.heap.size W2 wd):=hbd;clear hbd))
   go_ret;exact⟨by rw[HX.out];rfl,HBW.out.trans (HBd.out.mono HBW.out.size)⟩
end
section
open Go.RowKit Nums Fm Pk
structure NwAt(w wr:World)(ob:Nat)(base:Int)(vs:Value)(m:List RSt):Prop where
 bel:Below w.heap.size w wr
 lo:w.heap.size≤ob
 blk:wr.heap[ob]?=some (.cells #[.int .i64 base,vs] 39)
 ap:vs.ownBlock≠some ob
 ex:∃xss,GOwn 91 3 w.heap.size wr vs xss∧xss.length=m.length∧∀(i:Nat) (s:RSt),m[i]?=some s→∃va,xss[i]?=some [.bool s.final,.int .i64 s.out,va]∧ArcsAt wr.heap.size wr va s.arcs∧∀g,va.ownBlock=some g→w.heap.size≤g∧g≠ob∧vs.ownBlock≠some g∧g<wr.heap.size
theorem ArcsAt.grow{E:Nat}{w w':World}{v:Value}{l:List RArc}(h:ArcsAt E w v l)(hE:E≤w.heap.size)(hb:Below w.heap.size w w'):ArcsAt w'.heap.size w' v l:=h.upd (F:=fun _=>False) (Upd.of_below hb) hE (fun _ _=>id)
theorem NwAt.below{w wr w':World}{ob:Nat}{base:Int}{vs:Value}{m:List RSt}(h:NwAt w wr ob base vs m)(hb:Below wr.heap.size wr w'):NwAt w w' ob base vs m:=by
 obtain⟨xss,h1,h2,h3⟩:=h.ex;refine⟨h.bel.trans (hb.mono h.bel.size),h.lo,(hb.block ob (Array.getElem?_eq_some_iff.1 h.blk).1).trans h.blk,h.ap,xss,h1.below hb,h2,fun i s hi=>?_⟩;obtain⟨va,e1,e2,e3⟩:=h3 i s hi;exact⟨va,e1,e2.grow (Nat.le_refl _) hb,fun g hg=>by obtain⟨k1,k2,k3,k4⟩:=e3 g hg;exact⟨k1,k2,k3,Nat.lt_of_lt_of_le k4 hb.size⟩⟩
theorem NwAt.facts{w wr:World}{ob:Nat}{base:Int}{vs:Value}{m:List RSt}(h:NwAt w wr ob base vs m):wr.cell? ⟨ob,0,none⟩=some (.int .i64 base)∧wr.cell? ⟨ob,1,none⟩=some vs∧∀o,wr.frozen? ⟨ob,o,none⟩=false:=⟨by simp[World.cell?,h.blk],by simp[World.cell?,h.blk],fun o=>by simp[World.frozen?,h.blk]⟩
theorem NwAt.more{w V3 V4 W':World}{ob:Nat}{base:Int}{vs v' va:Value}{m:List RSt}{s:RSt}{xss:List (List Value)}(h:NwAt w V3 ob base vs m)(hX:GOwn 91 3 w.heap.size V3 vs xss)(hxl:xss.length=m.length)(hxe:∀(i:Nat) (s:RSt),m[i]?=some s→∃va,xss[i]?=some [.bool s.final,.int .i64 s.out,va]∧ArcsAt V3.heap.size V3 va s.arcs∧∀g,va.ownBlock=some g→w.heap.size≤g∧g≠ob∧vs.ownBlock≠some g∧g<V3.heap.size)
 (hva:ArcsAt V3.heap.size V3 va s.arcs) (hvn:∀g,va.ownBlock=some g→w.heap.size≤g∧g≠ob∧vs.ownBlock≠some g∧g<V3.heap.size) (hb4:Below V3.heap.size V3 V4) (ho:GOwn 91 3 w.heap.size W' v' (xss++[[.bool s.final,.int .i64 s.out,va]])) (hg:V4.grownBy W' vs.ownBlock) (hob:v'.ownBlock=vs.ownBlock∨∃g,v'.ownBlock=some g∧V4.heap.size≤g):
 NwAt w (W'.setCell ⟨ob,1,none⟩ v') ob base v' (m++[s])∧W'.cell? ⟨ob,1,none⟩=some vs∧W'.frozen? ⟨ob,1,none⟩=false:=by
 have hol:ob<V3.heap.size:=(Array.getElem?_eq_some_iff.1 h.blk).1;have hu1:Upd (fun j=>vs.ownBlock=some j) V3 W':=(Upd.of_below hb4).trans (G:=fun j=>vs.ownBlock=some j) ⟨hg.os,hg.tape,hg.output,hg.size,fun j hj hn=>hg.block j hj (fun e=>hn e.symm)⟩ (fun _ _ g=>g);have hblk:W'.heap[ob]?=some (.cells #[.int .i64 base,vs] 39):=(hu1.block ob hol h.ap).trans h.blk;obtain⟨s1,s2,s3,s4⟩:=zBp W' ob 1 v';have hu2:Upd (fun j=>j=ob) W' (W'.setCell ⟨ob,1,none⟩ v'):=⟨s1,s2,s3,by omega,fun k _ hk=>Below.heap_setCell W' ⟨ob,1,none⟩ v' k hk⟩;have hu:Upd (fun j=>vs.ownBlock=some j∨j=ob) V3 (W'.setCell ⟨ob,1,none⟩ v'):=(hu1.mono fun j e => .inl e).trans (hu2.mono fun j e => .inr e) (fun _ _ g=>g);have hap:v'.ownBlock≠some ob:=fun e=>by
  rcases hob with e2|⟨g,e2,h2⟩
  · exact h.ap (e2▸e)
  · rw[e2]at e;cases e;have:=hb4.size;omega
 have hfar:∀g,g<V3.heap.size→vs.ownBlock≠some g→v'.ownBlock≠some g:=fun g hgl hn e=>by
  rcases hob with e2|⟨g2,e2,h2⟩
  · exact hn (e2▸e)
  · rw[e2]at e;cases e;have:=hb4.size;omega
 refine⟨⟨h.bel.trans (hu.below h.bel.size fun j e=>?_),h.lo,by rw[zAx hblk];rfl,hap,xss++[[.bool s.final,.int .i64 s.out,va]],ho.same fun g hg'=>hu2.block g (ho.lt hg') (fun e=>hap (e▸hg')),by simp[hxl],fun i t hi=>?_⟩,by simp[World.cell?,hblk],by simp[World.frozen?,hblk]⟩
 · rcases e with e|e
   · exact(hX.block e).1
   · have:=h.lo;omega
 · by_cases hi2:i<m.length
   · rw[List.getElem?_append_left hi2]at hi
     obtain⟨vb,e1,e2,e3⟩:=hxe i t hi;refine⟨vb,by rw[List.getElem?_append_left (by omega)];exact e1,e2.upd hu (Nat.le_refl _) (fun g hg' e=>?_),fun g hg'=>?_⟩
     · rcases e with e|e
       · exact(e3 g hg').2.2.1 e
       · exact(e3 g hg').2.1 e
     · exact⟨(e3 g hg').1,(e3 g hg').2.1,hfar g (e3 g hg').2.2.2 (e3 g hg').2.2.1,Nat.lt_of_lt_of_le (e3 g hg').2.2.2 hu.size⟩
   · have hi3:i=m.length:=by
      have:=(List.getElem?_eq_some_iff.1 hi).1;simp at this;omega
     subst hi3;rw[List.getElem?_append_right (Nat.le_refl _)]at hi;simp at hi;subst hi;refine⟨va,by rw[List.getElem?_append_right (by omega),hxl];simp,hva.upd hu (Nat.le_refl _) (fun g hg' e=>?_),fun g hg'=>?_⟩
     · rcases e with e|e
       · exact(hvn g hg').2.2.1 e
       · exact(hvn g hg').2.1 e
     · exact⟨(hvn g hg').1,(hvn g hg').2.1,hfar g (hvn g hg').2.2.2 (hvn g hg').2.2.1,Nat.lt_of_lt_of_le (hvn g hg').2.2.2 hu.size⟩
structure S9n(ob:Nat)(base:Int)(vs:Value)(W:World):Prop where
 c0:W.cell? ⟨ob,0,none⟩=some (.int .i64 base)
 c1:W.cell? ⟨ob,1,none⟩=some vs
theorem S9n.facts{ob:Nat}{base:Int}{vs:Value}{W:World}(h:S9n ob base vs W):W.cell? ⟨ob,0,none⟩=some (.int .i64 base)∧W.cell? ⟨ob,1,none⟩=some vs:=⟨h.1,h.2⟩
theorem NwAt.sts{w wr:World}{ob:Nat}{base:Int}{vs:Value}{m:List RSt}(h:NwAt w wr ob base vs m)(hok:∀s∈m,zB0 s.out)(hl:m.length≤9223372036854775807):StsAt wr.heap.size wr vs m:=by
 obtain⟨xss,h1,h2,h3⟩:=h.ex;refine⟨⟨xss,h1.reads,h2,fun i s hi=>?_⟩,hok,hl⟩;obtain⟨va,e1,e2,_⟩:=h3 i s hi;exact⟨va,e1,e2⟩
end
section
open Go.RowKit Nums Ed
def LBlk(w:World)(gl:Nat)(vs:List Value):Prop:=w.heap[gl]?=some (.cells vs.toArray 118 (0,0))
theorem LBlk.lt{w:World}{g:Nat}{vs:List Value}(h:LBlk w g vs):g<w.heap.size:=(Array.getElem?_eq_some_iff.1 h).1
theorem LBlk.cell{w:World}{g k:Nat}{vs:List Value}{x:Value}(h:LBlk w g vs)(hk:vs[k]?=some x):w.cell? ⟨g,k,none⟩=some x:=by
 unfold LBlk at h;simp only[World.cell?,h];simp[hk]
theorem LBlk.frozen{w:World}{g:Nat}{vs:List Value}(h:LBlk w g vs)(k:Nat):w.frozen? ⟨g,k,none⟩=false:=by
 unfold LBlk at h;simp only[World.frozen?,h];simp
theorem LBlk.set{w:World}{g:Nat}{vs:List Value}(h:LBlk w g vs)(k:Nat)(x:Value):LBlk (w.setCell ⟨g,k,none⟩ x) g (vs.set k x):=by
 unfold LBlk at h ⊢;simp only[World.setCell,Array.getElem?_modify,h];simp
def zHz(g W n k:Nat):List Value:=(List.range n).map fun i=>if i<k then .slice (some ⟨g,i*W,none⟩) 0 W else .slice none 0 0
theorem zD4(g W n k:Nat):(zHz g W n k).length=n:=by simp[zHz]
theorem zC8(g W n k:Nat){i:Nat}(h:i<n):(zHz g W n k)[i]?=some (if i<k then .slice (some ⟨g,i*W,none⟩) 0 W else .slice none 0 0):=by
 unfold zHz;rw[List.getElem?_map,List.getElem?_range h];rfl
theorem zUl(g W n k:Nat):(zHz g W n k).set k (.slice (some ⟨g,k*W,none⟩) 0 W)=zHz g W n (k+1):=by
 apply List.ext_getElem?;intro i;rw[List.getElem?_set];by_cases hi:i<n
 · rw[zC8 _ _ _ _ hi,zC8 _ _ _ _ hi,zD4]
   by_cases e:k=i
   · subst e;rw[if_pos rfl,if_pos hi,if_pos (by omega)]
   · rw[if_neg e]
     by_cases c:i<k
     · rw[if_pos c,if_pos (by omega)]
     · rw[if_neg c,if_neg (by omega)]
 · rw[List.getElem?_eq_none (by rw[zD4];omega),List.getElem?_eq_none (by rw[zD4];omega),zD4]
   split
   · rw[if_neg (by omega)]
   · rfl
theorem zSa(g W n:Nat):zHz g W n 0=List.replicate n (.slice none 0 0):=by
 apply List.ext_getElem?;intro i;by_cases hi:i<n
 · rw[zC8 _ _ _ _ hi,if_neg (by omega),List.getElem?_replicate,if_pos hi]
 · rw[List.getElem?_eq_none (by rw[zD4];omega),List.getElem?_eq_none (by simp;omega)]
theorem zWh:(Tryz.prog.info? 118).map (fun i=>(i.zero,i.size,i.bytes))=some (some (.slice none 0 0),1,24):=by kernel_rfl
theorem zMj{w:World}{B g n:Nat}{T:TypeId}{xs:List Value}(h:w.ownsRow B T 1 (.slice (some ⟨g,0,none⟩) n n) n xs):w.heap[g]?=some (.cells xs.toArray T (0,0)):=by
 obtain⟨hl,⟨e,_⟩|⟨g',cap,cur,e,h1,hg,h2,h3,h4,h5⟩⟩:=h
 · cases e
 · simp only[Value.slice.injEq,Option.some.injEq,Addr.mk.injEq]at e
   obtain⟨⟨rfl,_,_⟩,_,rfl⟩:=e;rw[hg];have:cur=xs.toArray:=by
    rw[←h5,List.take_of_length_le (by rw[Array.length_toList,h4];omega)]
   rw[this]
theorem zVo(N:Nat):(madeCells (Value.int .i64 0).cells (N*1)).toList=(List.replicate N (0:Int)).map (Value.int .i64):=by
 rw[show(Value.int .i64 0).cells=#[.int .i64 0]from rfl,Nat.mul_one,toList_madeCells_one,List.map_replicate]
theorem zOt(N:Nat):(madeCells (Value.slice none 0 0).cells (N*1)).toList=List.replicate N (Value.slice none 0 0):=by
 rw[show(Value.slice none 0 0).cells=#[.slice none 0 0]from rfl,Nat.mul_one,toList_madeCells_one]
set_option maxHeartbeats 1000000 in
theorem rows_any(n W:Nat)(w:World)(hn1:1≤n)(hW1:1≤W)(hn:n≤100000)(hW:W≤100000):
 Calls Tryz.prog 155 #[.int .i64 n,.int .i64 W] w fun e w'=>∃g gl,e = .returned (.slice (some ⟨gl,0,none⟩) n n)∧LBlk w' gl (zHz g W n n)∧IBlk w' g (List.replicate (n*W) 0)∧Below w.heap.size w w'∧w.heap.size≤g∧w.heap.size≤gl∧gl≠g:=by
 obtain⟨i0,hi,hz0,hz1,hz2⟩:=info_parts zWi;obtain⟨i1,hi1,hy0,hy1,hy2⟩:=info_parts zWh;obtain⟨N,hN⟩:∃N,N=n*W:=⟨_,rfl⟩;have hNb:N≤10000000000:=by rw[hN];exact Nat.le_trans (Nat.mul_le_mul hn hW) (by decide)
 have hwN:IntKind.i64.wrap ((n:Int)*(W:Int))=(N:Int):=by rw[←Int.natCast_mul,←hN,IntKind.wrap_i64];omega
 have HN:Hid (N=n*W):=hN;rw[←hN];clear hN;go_enter Tryz.func155,Tryz.ntmps155;go_upto_region 2 with(at_make;refine wpList_make_full _ rfl _ _ 118 rfl w.heap.size 3 i0 (.int .i64 0) 1 Tryz.underlying118 hi hz0 hz1 _ _ _ _ N rfl rfl rfl rfl (by rw[hz2];omega) (by unfold maxLen;omega) (Nat.le_refl _) ?_;intro w1 hown1 hgrow1)
 have hI1:IBlk w1 w.heap.size (List.replicate N 0):=by
  have:=zMj hown1;unfold IBlk;rw[this,zVo]
 have hs1:=hgrow1.size;have hb1:Below w.heap.size w w1:=(Below.refl _ w).grown hgrow1 (Nat.le_refl _) (fun k hk=>by cases hk);clear hown1 hgrow1;obtain⟨g,hg⟩:∃g,g=w.heap.size:=⟨_,rfl⟩;rw[←hg]at hI1;simp only[←hg];have HG:Hid (g=w.heap.size):=hg;have hgl1:=hI1.lt;clear hg;have HI1:Hid (IBlk w1 g (List.replicate N 0)):=hI1;clear hI1;go_upto_region 3 with(at_make;refine wpList_make_full _ rfl _ _ 232 rfl w1.heap.size 118 i1 (.slice none 0 0) 1 Tryz.underlying232 hi1 hy0 hy1 _ _ _ _ n rfl rfl rfl rfl (by rw[hy2];omega) (by unfold maxLen;omega) (Nat.le_refl _) ?_;intro w2 hown2 hgrow2)
 have hL2:LBlk w2 w1.heap.size (zHz g W n 0):=by
  have:=zMj hown2;unfold LBlk;rw[this,zOt,zSa]
 have hb2:Below w1.heap.size w1 w2:=(Below.refl _ w1).grown hgrow2 (Nat.le_refl _) (fun k hk=>by cases hk);have hI2:IBlk w2 g (List.replicate N 0):=HI1.out.same (hb2.block g hgl1);clear hown2 hgrow2 HI1;obtain⟨gl,hgl⟩:∃gl,gl=w1.heap.size:=⟨_,rfl⟩;rw[←hgl]at hL2;simp only[←hgl];have HGL:Hid (gl=w1.heap.size):=hgl;have hgne:gl≠g:=by omega
 have hb02:Below w.heap.size w w2:=hb1.trans (hb2.mono hb1.size);clear hgl hb1 hb2;go_wp2
 go_loopw [17] (fun i wr=>∃k:Nat,k≤n∧i = .int .i64 k∧LBlk wr gl (zHz g W n k)∧IBlk wr g (List.replicate N 0)∧Below w.heap.size w wr) (fun i _=>n-(intOf i).toNat)
 case atStart=>exact⟨0,by omega,rfl,hL2,hI2,hb02⟩
 case round=>
  obtain⟨k,hk,rfl,hL,hI,hbel⟩:=hrel;by_cases hlt:k<n
  · have hc:wr.cell? ⟨gl,k,none⟩=some (.slice none 0 0):=hL.cell (by rw[zC8 _ _ _ _ hlt,if_neg (by omega)])
    have hf:=hL.frozen k;obtain⟨m,hm⟩:∃m,m=k*W:=⟨_,rfl⟩;have hmN:m+W≤N:=by
     rw[hm,HN.out];have:=Nat.mul_le_mul_right W (show k+1≤n from hlt);rw[Nat.add_mul]at this;omega
    (have hwm:IntKind.i64.wrap ((k:Int)*(W:Int))=(m:Int):=by rw[←Int.natCast_mul,←hm,IntKind.wrap_i64];omega);have HL:Hid (LBlk (wr.setCell ⟨gl,k,none⟩ (.slice (some ⟨g,m,none⟩) 0 W)) gl (zHz g W n (k+1))):=by
     have:=hL.set k (.slice (some ⟨g,m,none⟩) 0 W);rw[hm,zUl]at this;rw[hm];exact this
    have HI:Hid (IBlk (wr.setCell ⟨gl,k,none⟩ (.slice (some ⟨g,m,none⟩) 0 W)) g (List.replicate N 0)):=hI.same (Below.heap_setCell _ _ _ _ (fun e=>hgne e.symm));have HB:Hid (Below w.heap.size w (wr.setCell ⟨gl,k,none⟩ (.slice (some ⟨g,m,none⟩) 0 W))):=hbel.setCell (by show w.heap.size≤gl;have:=HG.out;have:=HGL.out;omega) _;clear hL hI hm;go_wp2
    go_roundw
    (case rel=>exact⟨k+1,by omega,by go_num,HL.out,HI.out,HB.out⟩);case measure=>simp[intOf];omega
  · obtain rfl:k=n:=by omega
    go_wp2;go_ret;exact⟨g,gl,rfl,hL,hI,hbel,by have:=HG.out;omega,by have:=HG.out;have:=HGL.out;omega,hgne⟩
end
section
open Go.RowKit Nums Ed
set_option maxHeartbeats 1000000 in
theorem zN2(a b:ByteArray)(w:World)(ht:Tabs w)(ha:a.size≤9223372036854775807)(hb:b.size≤9223372036854775807):
 Calls Tryz.prog 122 #[.string a,.string b] w fun e w'=>e = .returned (dsV (dsE a.data.toList b.data.toList))∧Below w.heap.size w w':=by
 go_enter Tryz.func122,Tryz.ntmps122;go_upto_region 2 with(go_at_call 154;refine(both_any a b _ ht ha hb).mono ?_;rintro e w1 ⟨vx,vy,f,rfl,hbo⟩)
 obtain⟨hb1,⟨rfl,hno⟩|⟨rfl,xs,ys,h1,h2,m1,m2⟩⟩:=hbo
 · have HF:Hid (dsE a.data.toList b.data.toList=none):=hno
   clear hno;go_wp2;go_ret2;exact⟨by rw[HF.out];rfl,hb1⟩
 have HF:Hid (dsE a.data.toList b.data.toList=some (lv xs ys)):=zRg h1 h2;have hxl:=(zUk h1).2;have hyl:=(zUk h2).2;clear h1 h2;have HX:Hid (RunesAt w1.heap.size w1 vx xs):=m1.runesE;have HY:Hid (RunesAt w1.heap.size w1 vy ys):=m2.runesE;clear m1 m2;obtain⟨adx,capx,rfl⟩:=HX.out.form;obtain⟨ady,capy,rfl⟩:=HY.out.form;obtain⟨W,hW⟩:∃W,W=ys.length+1:=⟨_,rfl⟩;have hwW:IntKind.i64.wrap ((ys.length:Int)+1)=(W:Int):=by rw[IntKind.wrap_i64];omega
 have HW:Hid (W=ys.length+1):=hW;have hW1:1≤W:=by omega
 have hW2:W≤2000:=by omega
 clear hW;go_upto_region 5 with(go_at_call 155;refine(rows_any 2 W _ (by omega) hW1 (by omega) (by omega)).mono ?_;rintro e w2 ⟨g,gl,rfl,hL,hI,hb2,hg1,hg2,hgne⟩)
 have hL0:w2.drew.cell? ⟨gl,0,none⟩=some (.slice (some ⟨g,0,none⟩) 0 W):=hL.cell (by rw[zC8 _ _ _ _ (by omega)];simp);have hL1:w2.drew.cell? ⟨gl,1,none⟩=some (.slice (some ⟨g,W,none⟩) 0 W):=hL.cell (by rw[zC8 _ _ _ _ (by omega)];simp);have hS0:w2.drew.cell? ⟨gl,0,none⟩=some (.slice (some ⟨g,0,none⟩) 0 W)∧w2.drew.cell? ⟨gl,1,none⟩=some (.slice (some ⟨g,W,none⟩) 0 W):=⟨hL0,hL1⟩;have HST:=zUb w2.drew g 0 W _ ys (show IBlk w2.drew g _ from hI) (by have:=HW.out;omega) (by simp;have:=HW.out;omega) (by omega);have hgll:gl<w2.drew.heap.size:=hL.lt;have hgl2:g<w2.drew.heap.size:=hI.lt;refine zAd (S:=fun W'=>W'.cell? ⟨gl,0,none⟩=some (.slice (some ⟨g,0,none⟩) 0 W)∧W'.cell? ⟨gl,1,none⟩=some (.slice (some ⟨g,W,none⟩) 0 W)) 11 rfl zAo hS0 (fun _=>?_);refine tq4 id 0 27 1 28 2 29 3 30 ?_;simp only[sZa,sZb,sZc];refine tq4 id 4 31 6 33 7 34 8 35 ?_;simp only[sZa,sZb,sZc];refine zAe (i:=5) (w0:=w2.drew) 32 156 #[.slice (some ⟨g,0,none⟩) 0 W,.int .i64 ys.length] (by kernel_rfl) rfl rfl (by rfl) (by kernel_rfl) ?_;refine HST.mono ?_;rintro e w3 ⟨rfl,hI3,hb3⟩;have hS3:w3.cell? ⟨gl,0,none⟩=some (.slice (some ⟨g,0,none⟩) 0 W)∧w3.cell? ⟨gl,1,none⟩=some (.slice (some ⟨g,W,none⟩) 0 W):=by
  have e:=hb3.block gl hgll hgne;exact⟨(World.cell?_of_block (a:=⟨gl,0,none⟩) e).trans hS0.1,(World.cell?_of_block (a:=⟨gl,1,none⟩) e).trans hS0.2⟩
 refine⟨_,rfl,hS3,fun _=>?_⟩;simp only[sZa,sZb,sZc];refine zAu (i:=9) (v := .slice (some ⟨g,0,none⟩) (ys.length+1) W) (w':=w3) 10 (by kernel_rfl) rfl rfl (by rfl) (by kernel_rfl) hS3 (fun _=>?_);simp only[sZa,sZb,sZc];refine zAu (i:=10) (v := .slice (some ⟨g,W,none⟩) 0 W) (w':=w3) 11 (by kernel_rfl) rfl rfl (by rfl) (by kernel_rfl) hS3 (fun _=>?_);simp only[sZa,sZb,sZc];refine wpAnyH_done (by kernel_rfl) ?_ _;have hE3:Below w1.heap.size w1 w3:=by
  have h:=hb3.below (B:=w1.heap.size) hg1 hb2.size;exact⟨h.os.trans hb2.os,h.tape.trans hb2.tape,h.output.trans hb2.output,Nat.le_trans hb2.size h.size,fun k hk=>(h.block k hk).trans (hb2.block k hk)⟩
 have HI3:Hid (IBlk w3 g (lay (List.replicate (2*W) 0) 0 (dr [] ys))):=hI3;clear hS0 hS3 hL0 hL1 HST hI3 hL hI hb3 hb2 hgll hgl2;go_wp2
 go_loopw [10,11,38] (fun v u i wr=>∃(k fa fb q:Nat) (cs:List Int),k≤xs.length∧i = .int .i64 k∧v = .slice (some ⟨g,fa,none⟩) (ys.length+1) W∧u = .slice (some ⟨g,fb,none⟩) q W∧((fa=0∧fb=W)∨(fa=W∧fb=0))∧cs.length=2*W∧IBlk wr g cs∧(∀j,j≤ys.length→cs[fa+j]?=some (lv (xs.take k) (ys.take j):Int))∧Below w1.heap.size w1 wr) (fun _ _ i _=>xs.length-(intOf i).toNat)
 case atStart=>
  have hlen:0+(dr [] ys).length≤(List.replicate (2*W) (0:Int)).length:=by rw[zIi,List.length_replicate];have:=HW.out;omega
  refine⟨0,0,W,0,_,Nat.zero_le _,rfl,rfl,rfl,.inl ⟨rfl,rfl⟩,?_,HI3.out,fun j hj=>?_,hE3⟩
  · rw[zLc hlen,List.length_replicate]
  · rw[zV3 hlen (by rw[zIi];omega),zNe _ _ hj];simp
 case round=>
  obtain⟨k,fa,fb,q,cs,hk,rfl,rfl,rfl,hfab,hcl,hI,hA,hbel⟩:=hrel;have HI:Hid (IBlk wr g cs):=hI;have HA:Hid (∀j,j≤ys.length→cs[fa+j]?=some (lv (xs.take k) (ys.take j):Int)):=hA;have HC:Hid (cs.length=2*W):=hcl;have HAB:Hid ((fa=0∧fb=W)∨(fa=W∧fb=0)):=hfab;clear hI hA hcl hfab;by_cases hlt:k<xs.length
  · obtain⟨r,hr⟩:∃r,xs[k]?=some r:=⟨_,List.getElem?_eq_getElem hlt⟩
    obtain⟨gx,offx,rfl,hgx,hcx⟩:=(HX.out.below hbel).at hr;(have HT:Hid (xs.take (k+1)=xs.take k++[r]):=by unfold Hid;rw[List.take_add_one,hr];rfl);clear hr;go_wp2_with (go_at_call 157;refine(next_any wr g fb fa W W cs (xs.take k) ys r _ w1.heap.size HI.out (by have:=HW.out;omega) (by have:=HC.out;have:=HW.out;rcases HAB.out with h|h<;>omega) HA.out (by have:=HW.out;rcases HAB.out with h|h<;>omega) (HY.out.below hbel) hg1 (by omega) (by rw[List.length_take];omega)).mono ?_;rintro e w4 ⟨rfl,hI4,hb4⟩);have hlen:Hid (fb+(dr (xs.take k++[r]) ys).length≤cs.length):=by unfold Hid;rw[zIi,HC.out];have:=HW.out;rcases HAB.out with h|h<;>omega
    go_roundw
    case rel=>
     refine⟨k+1,fb,fa,_,_,by omega,by go_num,rfl,rfl,by rcases HAB.out with h|h;exact .inr ⟨h.2,h.1⟩;exact .inl ⟨h.2,h.1⟩,?_,hI4,fun j hj=>?_,?_⟩
     · rw[zLc hlen.out];exact HC.out
     · rw[zV3 hlen.out (by rw[zIi];omega),zNe _ _ hj,HT.out]
     · exact hbel.trans (hb4.below hg1 hbel.size)
    case measure=>simp[intOf];omega
  · obtain rfl:k=xs.length:=by omega
    have hc:wr.cell? ⟨g,fa+ys.length,none⟩=some (.int .i64 (lv xs ys:Int)):=by
     have:=HA.out ys.length (Nat.le_refl _);rw[List.take_of_length_le (Nat.le_refl _),List.take_of_length_le (Nat.le_refl _)]at this;exact HI.out.cell this
    go_wp2;go_ret2;exact⟨by rw[HF.out];rfl,hb1.trans (hbel.mono hb1.size)⟩
end
