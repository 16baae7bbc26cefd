import Derived.Test.YtkdhdehobdfakaaGreatDoorFRBuild
import Derived.Test.YtkdhdehobdfakaaGreatDoorJ21
namespace Go.Proofs.YtkdhdehobdfakaaGreatDoor
open Go.RowKit Nums Fm Pm
set_option maxRecDepth 100000
def zL3(v:Value)(l:List Pr)(w:World):Prop:=
 Calls Tryz.prog 19 #[.agg #[.slice none 0 0,.slice none 0 0],v] w fun e w'=>∃ra rn rc sd nb sc n,e = .returned (.tuple #[.agg #[.slice ra rn rc,.slice sd nb sc],n])∧Below w.heap.size w w'∧StRow w.heap.size w' (.slice sd nb sc) (stF 25 [] (ents l)).1
theorem zNb{tmps:Array Value}{w:World}{rb:Nat}{a b:Value}(h2:tmps.getD 2 undef = .pointer (some ⟨rb,0,none⟩))(c0:w.cell? ⟨rb,0,none⟩=some a)(c1:w.cell? ⟨rb,1,none⟩=some b):(results Tryz.f8 tmps).run Tryz.prog w = .ok (.agg #[a,b]) w:=by
 have h2':tmps[2]?.getD undef = .pointer (some ⟨rb,0,none⟩):=by simpa using h2
 simp[results,Tryz.results8,go_sem,h2',c0,c1]
set_option maxHeartbeats 4000000 in
theorem zO3(w:World)(v:Value)(l:List Pr)(h:PRow w v l)(hC:zAl l=0)(hst:l≠[]→∀w1 v1,Below w.heap.size w w1→RR w1.heap.size w1 v1 (ents l)→zL3 v1 l w1):zL5 v l w:=by
 unfold zL5;obtain⟨ad,cap,rfl⟩:=h.form;have HR:Hid (PRow w (.slice ad l.length cap) l):=h;obtain⟨n,hn⟩:∃n,l.length=n:=⟨_,rfl⟩;have HN:Hid (l.length=n):=hn;have HC:Hid (zAl l=0):=hC;have HST:Hid (l≠[]→∀w1 v1,Below w.heap.size w w1→RR w1.heap.size w1 v1 (ents l)→zL3 v1 l w1):=hst;have HA:Hid (∀o,Below w.heap.size w (w.alloc o)):=fun o=>(Below.refl _ w).alloc (Nat.le_refl _) o
 rw[hn]at HR ⊢;clear h hst hC hn;by_cases hn0:n=0
 · have HM:Hid (zAf l=(0,[])):=by show _=_;rw[zAf,if_neg (fun e=>e.2 (List.eq_nil_of_length_eq_zero (HN.out.trans hn0)))]
   subst hn0;go_enter Tryz.func8,Tryz.ntmps8;go_wp2;go_returns;exact⟨_,_,_,rfl,HA.out _,StRow.nil _ _,HM.out⟩
 have hn0b:((n:Int)==0)=false:=beq_eq_false_iff_ne.2 (by omega);have HLE:Hid (l≠[]):=fun e=>hn0 (by rw[←HN.out,e];rfl)
 have HD:Hid (DictOk l):=zB0 HC.out;have HM:Hid (zAf l=(least (ents l),(stF 25 [] (ents l)).1)):=by show _=_;rw[zAf,if_pos ⟨HC.out,fun e=>by have:=HN.out;rw[e]at this;simp at this;omega⟩]
 obtain⟨rb,hrb⟩:∃rb,rb=w.heap.size:=⟨_,rfl⟩;obtain⟨w0,hw0⟩:∃w0,w0=w.alloc (.cells #[.int .i64 0,.slice none 0 0] 31):=⟨_,rfl⟩;have HB0:Hid (Below w.heap.size w w0):=by show Below _ _ _;rw[hw0];exact HA.out _
 have HR0:Hid (RBlk rb w0):=⟨by rw[hw0,hrb];exact zAb _ _⟩;have HRB:Hid (w.heap.size≤rb):=by show _≤_;rw[hrb];exact Nat.le_refl _
 have hRS:Hid (Calls Tryz.prog 18 #[.slice ad n cap] w0 fun e w'=>∃v',e = .returned v'∧RR w'.heap.size w' v' (ents l)∧Below w0.heap.size w0 w'):=by
  have:=zMz w0 _ l (HR.out.below HB0.out) HD.out.len HD.out.wd;exact this
 have hne:=HD.out.len;rw[HN.out]at hne;have HE0:Hid (0<(ents l).length∧(ents l).length≤1048576):=by have:=zBa l;rw[HN.out]at this;exact⟨by omega,by omega⟩
 clear hn0;go_enter Tryz.func8,Tryz.ntmps8;go_upto_region 1 with fail
 rw[←hw0,←hrb];clear hw0 hrb;go_upto_region 5 with(go_at_call 18;refine hRS.out.mono ?_;rintro e w1 ⟨va,rfl,hra,hb1⟩;obtain⟨da,ca,hva⟩:=hra.form;obtain⟨ne,hne2⟩:∃ne,(ents l).length=ne:=⟨_,rfl⟩;rw[hne2]at hva;subst hva;clear hne2;have HRA:Hid (RR w1.heap.size w1 (.slice da ne ca) (ents l)):=hra;have HB1:Hid (Below w0.heap.size w0 w1):=hb1;clear hra hb1)
 have HB01:Hid (Below w.heap.size w w1):=HB0.out.trans (HB1.out.mono HB0.out.size);refine(show Calls Tryz.prog 19 #[.agg #[.slice none 0 0,.slice none 0 0],.slice da ne ca] w1 _ from HST.out HLE.out w1 _ HB01.out HRA.out).mono ?_;rintro e w2 ⟨ra,rn,rc,sd,nb,sc,m,rfl,hb2,hrow⟩;have HB2:Hid (Below w1.heap.size w1 w2):=hb2;have HRW:Hid (StRow w1.heap.size w2 (.slice sd nb sc) (stF 25 [] (ents l)).1):=hrow;clear hb2 hrow;go_upto_region 6 with fail
 obtain⟨kb,hkb⟩:∃kb,kb=w2.heap.size:=⟨_,rfl⟩;obtain⟨w3,hw3⟩:∃w3,w3=w2.alloc (.cells #[.slice ra rn rc,.slice sd nb sc] 64):=⟨_,rfl⟩;rw[←hkb,←hw3];have hb3:Below w2.heap.size w2 w3:=by rw[hw3];exact(Below.refl _ w2).alloc (Nat.le_refl _) _
 have hk3:w3.heap[kb]?=some (.cells #[.slice ra rn rc,.slice sd nb sc] 64):=by rw[hw3,hkb];exact zAb _ _
 have hb12:Below w1.heap.size w1 w3:=HB2.out.trans (hb3.mono HB2.out.size);have h01:Below w0.heap.size w0 w3:=HB1.out.trans (hb12.mono HB1.out.size);have h03:Below w.heap.size w w3:=HB01.out.trans (hb12.mono HB01.out.size);have hR3:RBlk rb w3:=HR0.out.below h01;have hrb1:rb<w1.heap.size:=Nat.lt_of_lt_of_le HR0.out.lt HB1.out.size;have HLS:Calls Tryz.prog 20 #[.slice da ne ca] w3.drew fun e w'=>e = .returned (.int .i64 (least (ents l)))∧w'=w3.drew:=zD5 w1.heap.size w3.drew _ (ents l) (HRA.out.below (Nat.le_refl _) (hb12.drew)) HE0.out.1 HE0.out.2
 have hS0:w3.drew.cell? ⟨kb,1,none⟩=some (.slice sd nb sc):=by have:w3.drew.heap[kb]?=w3.heap[kb]?:=rfl;simp[World.cell?,this,hk3]
 have hne3:kb≠rb:=by have:=HB2.out.size;omega
 obtain⟨w5,hw5⟩:∃w5,w5=(w3.drew.setCell ⟨rb,0,none⟩ (.int .i64 (least (ents l)))).setCell ⟨rb,1,none⟩ (.slice sd nb sc):=⟨_,rfl⟩;have hRd:RBlk rb w3.drew:=⟨hR3.blk⟩;obtain⟨hc0,hc1,hz⟩:=hR3.facts;have hp:=zE5 hRd.blk (.int .i64 (least (ents l))) (.slice sd nb sc);rw[←hw5]at hp;have he5:∀j,j≠rb→w5.heap[j]?=w3.heap[j]?:=fun j hj=>by rw[hw5,zAc _ _ _ _ hj,zAc _ _ _ _ hj];rfl
 have hS5:w5.cell? ⟨kb,1,none⟩=some (.slice sd nb sc):=(World.cell?_of_block (a:=⟨kb,1,none⟩) (he5 kb hne3)).trans (by simp[World.cell?,hk3]);have HFIN:Hid (BuildSays w w5 l (least (ents l)) (.slice sd nb sc) (stF 25 [] (ents l)).1):=by
  refine⟨?_,((HRW.out.below hb3).same fun g hg=>he5 g (by omega)).mono HB01.out.size,HM.out⟩;rw[hw5];exact((h03.drew).setCell HRB.out _).setCell HRB.out _
 clear hkb hw3 hb3 hk3 hb12 h01 h03 hR3 hrb1 hne3 hRd he5;refine zAh (S:=fun W=>W.cell? ⟨kb,1,none⟩=some (.slice sd nb sc)) 6 rfl zAr hS0 (fun _=>?_);refine tq2 id 0 18 2 20 ?_;simp only[sZa,sZb,sZc];refine tq id 3 21 ?_;simp only[sZa,sZb,sZc];refine oc 1 w3.drew 19 20 #[.slice da ne ca] ?_;refine HLS.mono ?_;rintro e w4 ⟨rfl,rfl⟩;refine⟨_,rfl,hS0,fun _=>?_⟩;simp only[sZa,sZb,sZc];refine tq id 4 22 ?_;simp only[sZa,sZb,sZc];refine zBy (i:=5) (w':=w5) (by kernel_rfl) rfl rfl (by rfl) (by rw[hw5];go_simp;first|done|exact rfl) hS5 (fun _=>?_);refine wpAnyH_done (by kernel_rfl) ?_ _;clear hw5 hc0 hc1 hz;go_wp2;try simp only[Exit.inBlock,Exit.then]
 refine bodyPost_ret (zNb rfl hp.1 hp.2) rfl ?_;exact⟨_,_,_,rfl,HFIN.out⟩
