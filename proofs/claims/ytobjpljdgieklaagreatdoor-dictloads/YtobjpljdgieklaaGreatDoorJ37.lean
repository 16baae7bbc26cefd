import Derived.Test.YtobjpljdgieklaaGreatDoorFRBuild
import Derived.Test.YtobjpljdgieklaaGreatDoorJ32
set_option maxRecDepth 100000
set_option maxHeartbeats 8000000
namespace Go.Proofs.YtobjpljdgieklaaGreatDoor
section
open Go.RowKit Nums Fm Pm
def zLi(v:Value)(l:List Pr)(w:World):Prop:=
 Calls Tryz.prog 53 #[.agg #[.slice none 0 0,.slice none 0 0],v] w fun e w'=>∃ra rn rc sd nb sc n,e = .returned (.tuple #[.agg #[.slice ra rn rc,.slice sd nb sc],n])∧Below w.heap.size w w'∧StRow w.heap.size w' (.slice sd nb sc) (stF 25 [] (ents l)).1
theorem zMn{tmps:Array Value}{w:World}{rb:Nat}{a b:Value}(h2:tmps.getD 2 undef = .pointer (some ⟨rb,0,none⟩))(c0:w.cell? ⟨rb,0,none⟩=some a)(c1:w.cell? ⟨rb,1,none⟩=some b):(results Tryz.f28 tmps).run Tryz.prog w = .ok (.agg #[a,b]) w:=by
 have h2':tmps[2]?.getD undef = .pointer (some ⟨rb,0,none⟩):=by simpa using h2
 simp[results,Tryz.results28,go_sem,h2',c0,c1]
theorem zOe(w:World)(v:Value)(l:List Pr)(h:PRow w v l)(hC:zAl l=0)(hst:l≠[]→∀w1 v1,Below w.heap.size w w1→RR w1.heap.size w1 v1 (ents l)→zLi v1 l w1):zF6 v l w:=by
 unfold zF6;obtain⟨ad,cap,rfl⟩:=h.form;have HR:Hid (PRow w (.slice ad l.length cap) l):=h;obtain⟨n,hn⟩:∃n,l.length=n:=⟨_,rfl⟩;have HN:Hid (l.length=n):=hn;have HC:Hid (zAl l=0):=hC;have HST:Hid (l≠[]→∀w1 v1,Below w.heap.size w w1→RR w1.heap.size w1 v1 (ents l)→zLi v1 l w1):=hst;have HA:Hid (∀o,Below w.heap.size w (w.alloc o)):=fun o=>(Below.refl _ w).alloc (Nat.le_refl _) o
 rw[hn]at HR ⊢;clear h hst hC hn;by_cases hn0:n=0
 · have HM:Hid (zAg l=(0,[])):=by show _=_;rw[zAg,if_neg (fun e=>e.2 (List.eq_nil_of_length_eq_zero (HN.out.trans hn0)))]
   subst hn0;go_enter Tryz.func28,Tryz.ntmps28;go_wp2;go_returns;exact⟨_,_,_,rfl,HA.out _,StRow.nil _ _,HM.out⟩
 have hn0b:((n:Int)==0)=false:=beq_eq_false_iff_ne.2 (by omega);have HLE:Hid (l≠[]):=fun e=>hn0 (by rw[←HN.out,e];rfl)
 have HD:Hid (DictOk l):=zB2 HC.out;have HM:Hid (zAg l=(least (ents l),(stF 25 [] (ents l)).1)):=by show _=_;rw[zAg,if_pos ⟨HC.out,fun e=>by have:=HN.out;rw[e]at this;simp at this;omega⟩]
 obtain⟨rb,hrb⟩:∃rb,rb=w.heap.size:=⟨_,rfl⟩;obtain⟨w0,hw0⟩:∃w0,w0=w.alloc (.cells #[.int .i64 0,.slice none 0 0] 39):=⟨_,rfl⟩;have HB0:Hid (Below w.heap.size w w0):=by show Below _ _ _;rw[hw0];exact HA.out _
 have HR0:Hid (RBlk rb w0):=⟨by rw[hw0,hrb];exact zAb _ _⟩;have HRB:Hid (w.heap.size≤rb):=by show _≤_;rw[hrb];exact Nat.le_refl _
 have hRS:Hid (Calls Tryz.prog 52 #[.slice ad n cap] w0 fun e w'=>∃v',e = .returned v'∧RR w'.heap.size w' v' (ents l)∧Below w0.heap.size w0 w'):=by
  have:=zMb w0 _ l (HR.out.below HB0.out) HD.out.len HD.out.wd;exact this
 have hne:=HD.out.len;rw[HN.out]at hne;have HE0:Hid (0<(ents l).length∧(ents l).length≤1048576):=by have:=zBb l;rw[HN.out]at this;exact⟨by omega,by omega⟩
 clear hn0;go_enter Tryz.func28,Tryz.ntmps28;go_upto_region 1 with fail
 rw[←hw0,←hrb];clear hw0 hrb;go_upto_region 5 with(go_at_call 52;refine hRS.out.mono ?_;rintro e w1 ⟨va,rfl,hra,hb1⟩;obtain⟨da,ca,hva⟩:=hra.form;obtain⟨ne,hne2⟩:∃ne,(ents l).length=ne:=⟨_,rfl⟩;rw[hne2]at hva;subst hva;clear hne2;have HRA:Hid (RR w1.heap.size w1 (.slice da ne ca) (ents l)):=hra;have HB1:Hid (Below w0.heap.size w0 w1):=hb1;clear hra hb1)
 have HB01:Hid (Below w.heap.size w w1):=HB0.out.trans (HB1.out.mono HB0.out.size);refine(show Calls Tryz.prog 53 #[.agg #[.slice none 0 0,.slice none 0 0],.slice da ne ca] w1 _ from HST.out HLE.out w1 _ HB01.out HRA.out).mono ?_;rintro e w2 ⟨ra,rn,rc,sd,nb,sc,m,rfl,hb2,hrow⟩;have HB2:Hid (Below w1.heap.size w1 w2):=hb2;have HRW:Hid (StRow w1.heap.size w2 (.slice sd nb sc) (stF 25 [] (ents l)).1):=hrow;clear hb2 hrow;go_upto_region 6 with fail
 obtain⟨kb,hkb⟩:∃kb,kb=w2.heap.size:=⟨_,rfl⟩;obtain⟨w3,hw3⟩:∃w3,w3=w2.alloc (.cells #[.slice ra rn rc,.slice sd nb sc] 96):=⟨_,rfl⟩;rw[←hkb,←hw3];have hb3:Below w2.heap.size w2 w3:=by rw[hw3];exact(Below.refl _ w2).alloc (Nat.le_refl _) _
 have hk3:w3.heap[kb]?=some (.cells #[.slice ra rn rc,.slice sd nb sc] 96):=by rw[hw3,hkb];exact zAb _ _
 have hb12:Below w1.heap.size w1 w3:=HB2.out.trans (hb3.mono HB2.out.size);have h01:Below w0.heap.size w0 w3:=HB1.out.trans (hb12.mono HB1.out.size);have h03:Below w.heap.size w w3:=HB01.out.trans (hb12.mono HB01.out.size);have hR3:RBlk rb w3:=HR0.out.below h01;have hrb1:rb<w1.heap.size:=Nat.lt_of_lt_of_le HR0.out.lt HB1.out.size;have HLS:Calls Tryz.prog 54 #[.slice da ne ca] w3.drew fun e w'=>e = .returned (.int .i64 (least (ents l)))∧w'=w3.drew:=zD2 w1.heap.size w3.drew _ (ents l) (HRA.out.below (Nat.le_refl _) (hb12.drew)) HE0.out.1 HE0.out.2
 have hS0:w3.drew.cell? ⟨kb,1,none⟩=some (.slice sd nb sc):=by have:w3.drew.heap[kb]?=w3.heap[kb]?:=rfl;simp[World.cell?,this,hk3]
 have hne3:kb≠rb:=by have:=HB2.out.size;omega
 obtain⟨w5,hw5⟩:∃w5,w5=(w3.drew.setCell ⟨rb,0,none⟩ (.int .i64 (least (ents l)))).setCell ⟨rb,1,none⟩ (.slice sd nb sc):=⟨_,rfl⟩;have hRd:RBlk rb w3.drew:=⟨hR3.blk⟩;obtain⟨hc0,hc1,hz⟩:=hR3.facts;have hp:=zA2 hRd.blk (.int .i64 (least (ents l))) (.slice sd nb sc);rw[←hw5]at hp;have he5:∀j,j≠rb→w5.heap[j]?=w3.heap[j]?:=fun j hj=>by rw[hw5,zAc _ _ _ _ hj,zAc _ _ _ _ hj];rfl
 have hS5:w5.cell? ⟨kb,1,none⟩=some (.slice sd nb sc):=(World.cell?_of_block (a:=⟨kb,1,none⟩) (he5 kb hne3)).trans (by simp[World.cell?,hk3]);have HFIN:Hid (BuildSays w w5 l (least (ents l)) (.slice sd nb sc) (stF 25 [] (ents l)).1):=by
  refine⟨?_,((HRW.out.below hb3).same fun g hg=>he5 g (by omega)).mono HB01.out.size,HM.out⟩;rw[hw5];exact((h03.drew).setCell HRB.out _).setCell HRB.out _
 clear hkb hw3 hb3 hk3 hb12 h01 h03 hR3 hrb1 hne3 hRd he5;refine zAf (S:=fun W=>W.cell? ⟨kb,1,none⟩=some (.slice sd nb sc)) 6 rfl zAn hS0 (fun _=>?_);refine tq2 id 0 18 2 20 ?_;simp only[sZa,sZb,sZc];refine tq id 3 21 ?_;simp only[sZa,sZb,sZc];refine oc 1 w3.drew 19 54 #[.slice da ne ca] ?_;refine HLS.mono ?_;rintro e w4 ⟨rfl,rfl⟩;refine⟨_,rfl,hS0,fun _=>?_⟩;simp only[sZa,sZb,sZc];refine tq id 4 22 ?_;simp only[sZa,sZb,sZc];refine zB0 (i:=5) (w':=w5) (by kernel_rfl) rfl rfl (by rfl) (by rw[hw5];go_simp;first|done|exact rfl) hS5 (fun _=>?_);refine wpAnyH_done (by kernel_rfl) ?_ _;clear hw5 hc0 hc1 hz;go_wp2;try simp only[Exit.inBlock,Exit.then]
 refine bodyPost_ret (zMn rfl hp.1 hp.2) rfl ?_;exact⟨_,_,_,rfl,HFIN.out⟩
namespace Fm
theorem zKf{st:List (List En)→List St→List En→List (List En)×List St×Nat}(h:∀D b S,D<+:(st D b S).1):∀(gs:List (Int×List En)) (D:List (List En)) (b:List St),D<+:(refA st D b gs).1
 |[],D,_=>List.prefix_refl D
 |(_,G)::r,D,b=>(h D b G).trans (zKf h r _ _)
theorem zKe:∀(f:Nat) (D:List (List En)) (b:List St) (S:List En),D<+:(refF f D b S).1
 |0,D,_,_=>List.prefix_refl D
 |f+1,D,b,S=>by
  rw[refF]
  split
  · exact List.prefix_refl D
  · exact(zKf (zKe f) _ D b).trans (List.prefix_append _ _)
theorem zE1(st:List (List En)→List St→List En→List (List En)×List St×Nat):∀(gs hs:List (Int×List En)) (D:List (List En)) (b:List St),refA st D b (gs++hs)=((refA st (refA st D b gs).1 (refA st D b gs).2.1 hs).1,(refA st (refA st D b gs).1 (refA st D b gs).2.1 hs).2.1,(refA st D b gs).2.2++(refA st (refA st D b gs).1 (refA st D b gs).2.1 hs).2.2)
 |[],hs,D,b=>by simp[refA]
 |(c,G)::r,hs,D,b=>by
  simp only[List.cons_append,refA];rw[zE1 st r hs]
theorem zG0(st:List (List En)→List St→List En→List (List En)×List St×Nat)(gs:List (Int×List En))(c:Int)(G:List En)(D:List (List En))(b:List St):refA st D b (gs++[(c,G)])=((st (refA st D b gs).1 (refA st D b gs).2.1 G).1,(st (refA st D b gs).1 (refA st D b gs).2.1 G).2.1,(refA st D b gs).2.2++[⟨c,least G,(st (refA st D b gs).1 (refA st D b gs).2.1 G).2.2⟩]):=by
 rw[zE1];rfl
end Fm
def fpK(vR vS:Value)(j:Nat):Prop:=vR.ownBlock=some j∨vS.ownBlock=some j
def Newer(w:World)(v v':Value):Prop:=v'.ownBlock=v.ownBlock∨∃q,v'.ownBlock=some q∧w.heap.size≤q
structure StA(A:Nat→Prop)(B:Nat)(w:World)(vs:Value)(b:List St):Prop where
 ex:∃xss,GOwn 91 3 B w vs xss∧xss.length=b.length∧∀(i:Nat) (s:St),b[i]?=some s→∃va,xss[i]?=some [.bool s.final,.int .i64 s.out,va]∧AOwn B w va s.arcs∧∀k,va.ownBlock=some k→A k
 lt:∀k,A k→k<w.heap.size
theorem StA.row{A:Nat→Prop}{B:Nat}{w:World}{vs:Value}{b:List St}(h:StA A B w vs b):StRow B w vs b:=by
 obtain⟨xss,h1,h2,h3⟩:=h.ex;exact⟨xss,h1,h2,fun i s hi=>by obtain⟨va,e1,e2,_⟩:=h3 i s hi;exact⟨va,e1,e2⟩⟩
theorem StA.shape{A:Nat→Prop}{B:Nat}{w:World}{vs:Value}{b:List St}(h:StA A B w vs b):∃ad cap,vs = .slice ad b.length cap:=h.row.shape
theorem StA.kept{A:Nat→Prop}{B:Nat}{w w':World}{vs:Value}{b:List St}(h:StA A B w vs b)(hs:w.heap.size≤w'.heap.size)(hv:∀j,vs.ownBlock=some j→w'.heap[j]?=w.heap[j]?)(hA:∀(j:Nat) (cur:Array Value),A j→w.heap[j]?=some (Obj.cells cur 126 (0,0))→w'.heap[j]?=w.heap[j]?):StA A B w' vs b:=by
 obtain⟨xss,h1,h2,h3⟩:=h.ex;refine⟨⟨xss,h1.same hv,h2,fun i s hi=>?_⟩,fun k hk=>Nat.lt_of_lt_of_le (h.lt k hk) hs⟩;obtain⟨va,e1,e2,e3⟩:=h3 i s hi;exact⟨va,e1,GOwn.same e2 fun g hg=>(by obtain⟨_,cur,hc⟩:=GOwn.block e2 hg;exact hA g cur (e3 g hg) hc),e3⟩
theorem StA.below{A:Nat→Prop}{B:Nat}{w w':World}{vs:Value}{b:List St}(h:StA A B w vs b)(hb:Below w.heap.size w w'):StA A B w' vs b:=by
 obtain⟨xss,h1,_,_⟩:=h.ex;exact h.kept hb.size (fun j hj=>hb.block j (h1.lt hj)) (fun j _ hj _=>hb.block j (h.lt j hj))
structure KSays(A A':Nat→Prop)(E B:Nat)(w w':World)(vR vS vR' vS':Value)(D:List (List En))(b:List St):Prop where
 rests:AllOwn E B w' vR' D
 states:StA A' B w' vS' b
 sub:∀j,A' j→A j∨w.heap.size≤j
 upd:Upd (fpK vR vS) w w'
 ownR:Newer w vR vR'
 ownS:Newer w vS vS'
theorem Newer.refl(w:World)(v:Value):Newer w v v := .inl rfl
theorem Newer.trans{w w1:World}{v v1 v2:Value}(h1:Newer w v v1)(h2:Newer w1 v1 v2)(hs:w.heap.size≤w1.heap.size):Newer w v v2:=by
 rcases h2 with h2|⟨q,h2,hq⟩
 · rcases h1 with h1|⟨q,h1,hq⟩
   · exact .inl (h2.trans h1)
   · exact .inr ⟨q,h2.trans h1,hq⟩
 · exact .inr ⟨q,h2,Nat.le_trans hs hq⟩
theorem Newer.low{w:World}{v v':Value}(h:Newer w v v'){j:Nat}(hj:j<w.heap.size)(e:v'.ownBlock=some j):v.ownBlock=some j:=by
 rcases h with h|⟨q,h,hq⟩
 · rw[←h];exact e
 · rw[h]at e;cases e;omega
theorem GOwn.over{T:TypeId}{k B:Nat}{w w':World}{v vR vS:Value}{xss yss zss:List (List Value)}{BR BS:Nat}(h:GOwn T k B w v xss)(hR:GOwn 92 1 BR w vR yss)(hS:GOwn 91 3 BS w vS zss)(h1:T≠92)(h2:T≠91)(hu:Upd (fpK vR vS) w w'):GOwn T k B w' v xss:=by
 refine h.same fun g hg=>hu.block g (h.lt hg) fun hf=>?_
 obtain⟨_,c1,e1⟩:=h.block hg;rcases hf with hf|hf
 · obtain⟨_,c2,e2⟩:=hR.block hf
   rw[e1]at e2;simp only[Option.some.injEq,Obj.cells.injEq]at e2;exact h1 e2.2.1
 · obtain⟨_,c2,e2⟩:=hS.block hf
   rw[e1]at e2;simp only[Option.some.injEq,Obj.cells.injEq]at e2;exact h2 e2.2.1
theorem AllOwn.typed{E B:Nat}{w w':World}{v:Value}{Ds:List (List En)}(h:AllOwn E B w v Ds)(h1:∀(j:Nat) (cur:Array Value),w.heap[j]?=some (Obj.cells cur 92 (0,0))→w'.heap[j]?=w.heap[j]?)(h2:∀(j:Nat) (cur:Array Value),w.heap[j]?=some (Obj.cells cur 153 (0,0))→w'.heap[j]?=w.heap[j]?)(hE:Below E w w'):AllOwn E B w' v Ds:=by
 obtain⟨xss,a1,a2,a3⟩:=h.ex;refine⟨xss,a1.same fun g hg=>(by obtain⟨_,cur,hc⟩:=a1.block hg;exact h1 g cur hc),a2,fun i R hi=>?_⟩;obtain⟨u,e1,e2⟩:=a3 i R hi;obtain⟨yss,b1,b2,b3⟩:=e2.ex;refine⟨u,e1,⟨yss,b1.same fun g hg=>(by obtain⟨_,cur,hc⟩:=b1.block hg;exact h2 g cur hc),b2,fun j e hj=>?_⟩⟩;obtain⟨q,d1,d2,d3⟩:=b3 j e hj;exact⟨q,d1,d2.below hE,d3⟩
theorem RMade.typed{E B:Nat}{w w':World}{v:Value}{S:List En}(h:RMade E B w v S)(h2:∀(j:Nat) (cur:Array Value),w.heap[j]?=some (Obj.cells cur 153 (0,0))→w'.heap[j]?=w.heap[j]?)(hE:Below E w w'):RMade E B w' v S:=by
 obtain⟨yss,b1,b2,b3⟩:=h.ex;refine⟨yss,b1.same fun g hg=>(by obtain⟨_,cur,hc⟩:=b1.block hg;exact h2 g cur hc),b2,fun j e hj=>?_⟩;obtain⟨q,d1,d2,d3⟩:=b3 j e hj;exact⟨q,d1,d2.below hE,d3⟩
theorem Fm.refA_len(st:List (List En)→List St→List En→List (List En)×List St×Nat):∀(gs:List (Int×List En)) (D:List (List En)) (b:List St),(refA st D b gs).2.2.length=gs.length
 |[],_,_=>rfl
 |(_,G)::r,D,b=>by simp only[refA,List.length_cons,refA_len st r]
theorem GOwn.over3{T:TypeId}{k B kb:Nat}{w w':World}{v vR vS x y:Value}{xss yss zss:List (List Value)}{BR BS:Nat}(h:GOwn T k B w v xss)(hR:GOwn 92 1 BR w vR yss)(hS:GOwn 91 3 BS w vS zss)(hK:w.heap[kb]?=some (.cells #[x,y] 96))(h1:T≠92)(h2:T≠91)(h3:T≠96)(hu:Upd (fun j=>fpK vR vS j∨j=kb) w w'):GOwn T k B w' v xss:=by
 refine h.same fun g hg=>hu.block g (h.lt hg) fun hf=>?_
 obtain⟨_,c1,e1⟩:=h.block hg;rcases hf with(hf|hf)|hf
 · obtain⟨_,c2,e2⟩:=hR.block hf
   rw[e1]at e2;simp only[Option.some.injEq,Obj.cells.injEq]at e2;exact h1 e2.2.1
 · obtain⟨_,c2,e2⟩:=hS.block hf
   rw[e1]at e2;simp only[Option.some.injEq,Obj.cells.injEq]at e2;exact h2 e2.2.1
 · rw[hf,hK]at e1
   simp only[Option.some.injEq,Obj.cells.injEq]at e1;exact h3 e1.2.1.symm
theorem zFg{tmps:Array Value}{w:World}{rb:Nat}{a b:Value}(h2:tmps.getD 4 undef = .pointer (some ⟨rb,0,none⟩))(c0:w.cell? ⟨rb,0,none⟩=some a)(c1:w.cell? ⟨rb,1,none⟩=some b):(results Tryz.f53 tmps).run Tryz.prog w = .ok (.tuple #[.agg #[a,b],tmps.getD 5 undef]) w:=by
 have h2':tmps[4]?.getD undef = .pointer (some ⟨rb,0,none⟩):=by simpa using h2
 simp[results,Tryz.results53,go_sem,h2',c0,c1]
structure KBlk(kb:Nat)(x y:Value)(w:World):Prop where
 blk:w.heap[kb]?=some (.cells #[x,y] 96)
theorem KBlk.facts{kb:Nat}{x y:Value}{w:World}(h:KBlk kb x y w):w.cell? ⟨kb,0,none⟩=some x∧w.cell? ⟨kb,1,none⟩=some y∧∀o,w.frozen? ⟨kb,o,none⟩=false:=⟨by simp[World.cell?,h.blk],by simp[World.cell?,h.blk],fun o=>by simp[World.frozen?,h.blk]⟩
theorem KBlk.lt{kb:Nat}{x y:Value}{w:World}(h:KBlk kb x y w):kb<w.heap.size:=(Array.getElem?_eq_some_iff.1 h.blk).1
theorem KBlk.below{kb:Nat}{x y:Value}{w w':World}(h:KBlk kb x y w)(hb:Below w.heap.size w w'):KBlk kb x y w':=⟨(hb.block kb h.lt).trans h.blk⟩
structure StIn(A:Nat→Prop)(f E B:Nat)(w:World)(vR vS vl:Value)(D:List (List En))(b:List St)(S:List En):Prop where
 inv:Inv D b
 good:Fm.Good f S
 rests:AllOwn E B w vR D
 states:StA A B w vS b
 row:RR E w vl S
 eb:E≤B
 bw:B≤w.heap.size
 len:(refF f D b S).1.length≤1048576
 sml:∀R∈(refF f D b S).1,zGw R
 wts:∀e∈S,0≤e.2∧e.2≤1048576
theorem StIn.own{A:Nat→Prop}{f E B:Nat}{w:World}{vR vS vl:Value}{D:List (List En)}{b:List St}{S:List En}(h:StIn A (f+1) E B w vR vS vl D b S):zGw (zAd S):=by
 refine h.sml _ ?_;rw[refF]
 split
 · assumption
 · simp
theorem zOm{S:List En}(h:zGw (zAd S)):S.length≤1048576:=by have:=h.1;simpa[zAd,zAh]using this
namespace Fm
def foF(l:List En):Bool×Int:=l.foldl (fun a e=>if e.1=[]then (true,e.2)else a) (false,0)
theorem fo_snoc{l:List En}{k:Nat}{e:En}(h:l[k]?=some e):foF (l.take (k+1))=if e.1=[]then (true,e.2)else foF (l.take k):=by
 rw[List.take_add_one,h];show foF (l.take k++[e])=_;unfold foF;rw[List.foldl_append];rfl
theorem zOr:∀(l:List En) (a:Bool×Int),(∀e∈l,e.1≠[])→l.foldl (fun a e=>if e.1=[]then (true,e.2)else a) a=a
 |[],_,_=>rfl
 |e::r,a,h=>by
  rw[List.foldl_cons,if_neg (h e (by simp))];exact zOr r a fun x hx=>h x (by simp[hx])
theorem fo_level{S:List En}(hr:Rise S)(h0:S≠[]):foF (zAd S)=(zCv S,zCh (zAd S)):=by
 obtain⟨_,h2⟩:=zBi hr;have h3:∀e∈zAi (zAd S),e.1≠[]:=fun e he=>by
  rw[zAd,zD1]at he;obtain⟨x,hx,rfl⟩:=List.mem_map.1 he;exact h2 x hx
 have hl:=zE4 h0;cases S with
 |nil=>exact absurd rfl h0
 |cons e r=>
  obtain⟨x,n⟩:=e;cases x with
  |nil=>
   have e1:zAd (([],n)::r)=([],n + -least (([],n)::r))::zAh (-least (([],n)::r)) r:=rfl;rw[e1]at h3 hl ⊢;have h4:=zOr _ (true,n + -least (([],n)::r)) h3;show List.foldl _ (true,n + -least (([],n)::r)) _=_;have e2:zCh (([],n + -least (([],n)::r))::zAh (-least (([],n)::r)) r)=n + -least (([],n)::r)-least (([],n + -least (([],n)::r))::zAh (-least (([],n)::r)) r):=rfl;rw[e2,hl,Int.sub_zero];exact h4
  |cons c t=>exact zOr _ (false,0) h3
end Fm
structure SBlk(sb:Nat)(x y z:Value)(w:World):Prop where
 blk:w.heap[sb]?=some (.cells #[x,y,z] 91)
theorem SBlk.facts{sb:Nat}{x y z:Value}{w:World}(h:SBlk sb x y z w):w.cell? ⟨sb,0,none⟩=some x∧w.cell? ⟨sb,1,none⟩=some y∧w.cell? ⟨sb,2,none⟩=some z∧∀o,w.frozen? ⟨sb,o,none⟩=false:=⟨by simp[World.cell?,h.blk],by simp[World.cell?,h.blk],by simp[World.cell?,h.blk],fun o=>by simp[World.frozen?,h.blk]⟩
theorem SBlk.lt{sb:Nat}{x y z:Value}{w:World}(h:SBlk sb x y z w):sb<w.heap.size:=(Array.getElem?_eq_some_iff.1 h.blk).1
theorem SBlk.below{sb:Nat}{x y z:Value}{w w':World}(h:SBlk sb x y z w)(hb:Below w.heap.size w w'):SBlk sb x y z w':=⟨(hb.block sb h.lt).trans h.blk⟩
theorem SBlk.set0{sb:Nat}{x y z:Value}{w:World}(h:SBlk sb x y z w)(u:Value):SBlk sb u y z (w.setCell ⟨sb,0,none⟩ u):=⟨by rw[zAu h.blk];rfl⟩
theorem SBlk.set1{sb:Nat}{x y z:Value}{w:World}(h:SBlk sb x y z w)(u:Value):SBlk sb x u z (w.setCell ⟨sb,1,none⟩ u):=⟨by rw[zAu h.blk];rfl⟩
structure KLoop(A:Nat→Prop)(f E B:Nat)(w:World)(vR vS vl vf:Value)(D:List (List En))(b:List St)(L:List En)(gs:List (Int×List En))(kb rb sb:Nat)(fn:Bool)(ot:Int)(wr:World)(k:Nat)(A':Nat→Prop)(vR' vS' va:Value):Prop where
 ks:KSays A A' E B w wr vR vS vR' vS' (refA (refF f) D b (gs.take k)).1 (refA (refF f) D b (gs.take k)).2.1
 inv:Inv (refA (refF f) D b (gs.take k)).1 (refA (refF f) D b (gs.take k)).2.1
 row:RMade E B wr vl L
 fst:IOwn B wr vf (fsts L)
 sblk:SBlk sb (.bool fn) (.int .i64 ot) va wr
 arcs:AOwn B wr va (refA (refF f) D b (gs.take k)).2.2
 kblk:KBlk kb vR' vS' wr
 rblk:KBlk rb (.slice none 0 0) (.slice none 0 0) wr
 free:∀j,va.ownBlock=some j→¬A' j
 new:∀j,va.ownBlock=some j→w.heap.size≤j
 apart:∀j,j=kb∨j=rb∨j=sb→¬fpK vR' vS' j
theorem zI8{S:List En}(h:Rise S):Rise (zAd S):=by
 unfold Rise zAd zAh;rw[List.pairwise_map];exact h
theorem zSj{f:Nat}{S:List En}(h:Fm.Good f S):Fm.Good f (zAd S):=⟨zG4.2 h.1,zI8 h.2.1,fun e he=>by
 obtain⟨x,hx,rfl⟩:=List.mem_map.1 he;exact h.2.2 x hx⟩
theorem zVe{S:List En}(h0:S≠[])(h:∀e∈S,0≤e.2∧e.2≤1048576):∀e∈zAd S,0≤e.2∧e.2≤1048576:=fun e he=>by
 obtain⟨x,hx,rfl⟩:=List.mem_map.1 he;have h1:=zCb hx;have h2:=h x hx;obtain⟨y,hy,h3⟩:=zB1 h0;have h4:=h y hy;simp only;omega
theorem Upd.set2(kb:Nat)(x y:Value)(w:World):Upd (fun j=>j=kb) w ((w.setCell ⟨kb,0,none⟩ x).setCell ⟨kb,1,none⟩ y):=by
 obtain⟨a1,a2,a3,a4⟩:=zA3 w kb 0 x;obtain⟨b1,b2,b3,b4⟩:=zA3 (w.setCell ⟨kb,0,none⟩ x) kb 1 y;exact⟨b1.trans a1,b2.trans a2,b3.trans a3,Nat.le_of_eq (b4.trans a4).symm,fun j _ hj=>(zAc _ _ _ _ hj).trans (zAc _ _ _ _ hj)⟩
theorem KBlk.set2{kb:Nat}{x y:Value}{w:World}(h:KBlk kb x y w)(u v:Value):KBlk kb u v ((w.setCell ⟨kb,0,none⟩ u).setCell ⟨kb,1,none⟩ v):=⟨by rw[zAu (zAu h.blk u)];rfl⟩
theorem IOwn.get{B:Nat}{w:World}{fg n cap k:Nat}{xs:List Int}{c:Int}(h:IOwn B w (.slice (some ⟨fg,0,none⟩) n cap) xs)(hk:xs[k]?=some c):w.cell? ⟨fg,k,none⟩=some (.int .i32 c):=by
 have hl:=(List.getElem?_eq_some_iff.1 hk).1;obtain⟨g,cp,e,_,_,_,hc⟩:=GOwn.cell h (by rw[List.length_map];omega);simp only[Value.slice.injEq,Option.some.injEq,Addr.mk.injEq,and_true]at e;have:=hc k 0 (zNf c) (.int .i32 c) (by rw[List.getElem?_map,hk];rfl) rfl;rw[e.1];simpa using this
theorem RMade.over3{E B kb:Nat}{w w':World}{v vR vS x y:Value}{S:List En}{yss zss:List (List Value)}{BR BS:Nat}(h:RMade E B w v S)(hR:GOwn 92 1 BR w vR yss)(hS:GOwn 91 3 BS w vS zss)(hK:w.heap[kb]?=some (.cells #[x,y] 96))(hu:Upd (fun j=>fpK vR vS j∨j=kb) w w')(hE:Below E w w'):RMade E B w' v S:=by
 obtain⟨xss,h1,h2,h3⟩:=h.ex;refine⟨xss,h1.over3 hR hS hK (by decide) (by decide) (by decide) hu,h2,fun i e hi=>?_⟩;obtain⟨u,e1,e2,e3⟩:=h3 i e hi;exact⟨u,e1,e2.below hE,e3⟩
structure S19(sb fg k:Nat)(va:Value)(c:Int)(w:World):Prop where
 a:w.cell? ⟨sb,2,none⟩=some va
 b:w.cell? ⟨fg,k,none⟩=some (.int .i32 c)
theorem S19.facts{sb fg k:Nat}{va:Value}{c:Int}{w:World}(h:S19 sb fg k va c w):w.cell? ⟨sb,2,none⟩=some va∧w.cell? ⟨fg,k,none⟩=some (.int .i32 c):=⟨h.a,h.b⟩
theorem zNk{T TS:TypeId}{k bytes:Nat}{W:World}{ops:Array Oper}{rest:List Oper}{o:Oper}{a:Act}{Q:Exit→Act→World→Prop}(R:RTy T TS k bytes)(hgd:o.guard=none)(s y:Operand)(x:List Value)(T2:TypeId)
 (ho:o.op = .call { callee := .builtin .append,args:=#[s,y],argTypes:=#[TS,TS] }) (B nb c:Nat) (v:Value) (xss:List (List Value)) (hs:a.eval s=v) (hown:GOwn T k B W v xss) (hy:a.eval y = .slice (some ⟨nb,0,none⟩) 1 c) (hnb:nb=W.heap.size) (hx:zGr k x) (h63:xss.length<1099511627776) (hB:B≤W.heap.size)
 (h:∀v' w',GOwn T k B w' v' (xss++[x])→Below B W w'→(W.alloc (.cells x.toArray T2)).grownBy w' v.ownBlock→Newer W v v'→wpList Tryz.prog ops Q rest (a.put o.dst v') w'):wpList Tryz.prog ops Q (o::rest) a (W.alloc (.cells x.toArray T2)):=by
 subst hnb;have hbA:Below W.heap.size W (W.alloc (.cells x.toArray T2)):=(Below.refl _ W).alloc (Nat.le_refl _) _;obtain⟨v',w',h1,h2,h3,h4⟩:=zAw R (hown.below hbA) (by simp;omega) hx (nb:=W.heap.size) (fun j u hj=>by simpa using hj) h63 o.type c;refine wpList_plain hgd fun _ hK=>?_
 unfold Oper.wp execOp;simp only[ho,resolve,invoke,builtin,Sem.run_bind,Sem.run_pure,Result.andThen_ok,List.map_toArray,List.map_cons,List.map_nil,hs,hy,h1];refine hK _ _ (h v' w' h2 (((Below.refl B W).alloc hB _).trans (zH4 (hown.below hbA) h3 (by simp;omega))) h3 ?_);rcases h4 with h4|⟨g,h4,h5⟩
 · exact .inl h4
 · exact .inr ⟨g,h4,Nat.le_trans hbA.size h5⟩
structure EndAt(A:Nat→Prop)(E B kb rb sb:Nat)(vR vS va:Value)(D:List (List En))(b:List St)(acc:List Arc)(fn:Bool)(ot:Int)(W:World):Prop where
 rests:AllOwn E B W vR D
 states:StA A B W vS b
 arcs:AOwn B W va acc
 kblk:KBlk kb vR vS W
 rblk:KBlk rb (.slice none 0 0) (.slice none 0 0) W
 sblk:SBlk sb (.bool fn) (.int .i64 ot) va W
theorem zQ7{B kb:Nat}{vR vS v:Value}{T:TypeId}{k:Nat}{W W7:World}{o:Obj}{xss:List (List Value)}(hk:KBlk kb vR vS W)(hRo:GOwn T k B W v xss)(hT:T≠96)(hg7:(W.alloc o).grownBy W7 v.ownBlock)(i:Nat)(u:Value):
 (∀j,j<W.heap.size→v.ownBlock≠some j→j≠kb→(W7.setCell ⟨kb,i,none⟩ u).heap[j]?=W.heap[j]?)∧(∀(j:Nat) (cur:Array Value) (T':TypeId),W.heap[j]?=some (Obj.cells cur T' (0,0))→T'≠T→T'≠96→(W7.setCell ⟨kb,i,none⟩ u).heap[j]?=W.heap[j]?)∧KBlk kb vR vS W7:=by
 have hA:∀j,j<W.heap.size→(W.alloc o).heap[j]?=W.heap[j]?:=fun j hj=>(MapKept.heap_alloc _ _).2 j hj
 have hsz:∀j,j<W.heap.size→j<(W.alloc o).heap.size:=fun j hj=>by simp;omega
 have h7:∀j,j<W.heap.size→v.ownBlock≠some j→W7.heap[j]?=W.heap[j]?:=fun j hj hn=>(hg7.block j (hsz j hj) (fun e=>hn e.symm)).trans (hA j hj)
 have hty:∀(j:Nat) (cur:Array Value) (T':TypeId),W.heap[j]?=some (Obj.cells cur T' (0,0))→T'≠T→v.ownBlock≠some j:=fun j cur T' hj hne e=>by
  obtain⟨_,c2,hc2⟩:=GOwn.block hRo e;rw[hj]at hc2;simp only[Option.some.injEq,Obj.cells.injEq]at hc2;exact hne hc2.2.1
 refine⟨fun j hj h1 h2=>(zAc _ _ _ _ h2).trans (h7 j hj h1),fun j cur T' hj h1 h2=>?_,⟨(h7 kb hk.lt (hty kb _ _ hk.blk (Ne.symm hT))).trans hk.blk⟩⟩;have hjl:=(Array.getElem?_eq_some_iff.1 hj).1;refine(zAc _ _ _ _ (fun e=>?_)).trans (h7 j hjl (hty j cur T' hj h1));rw[e,hk.blk]at hj;simp only[Option.some.injEq,Obj.cells.injEq]at hj;exact h2 hj.2.1.symm
theorem end_rest{A:Nat→Prop}{E B kb rb sb:Nat}{vR vS va vl v7:Value}{D:List (List En)}{b:List St}{acc:List Arc}{fn:Bool}{ot:Int}{W W7:World}{o:Obj}{L:List En}{xss:List (List Value)}(h:EndAt A E B kb rb sb vR vS va D b acc fn ot W)(hRo:GOwn 92 1 B W vR xss)(hxl:xss.length=D.length)(hxe:∀(i:Nat) (R:List En),D[i]?=some R→∃u,xss[i]?=some [u]∧RMade E B W u R)(hl:RMade E B W vl L)(hEB:E≤B)(hBk:B≤kb)(hrk:rb≠kb)
 (ho7:GOwn 92 1 B W7 v7 (xss++[[vl]])) (hb7:Below B W W7) (hg7:(W.alloc o).grownBy W7 vR.ownBlock):EndAt A E B kb rb sb v7 vS va (D++[L]) b acc fn ot (W7.setCell ⟨kb,0,none⟩ v7)∧Upd (fun j=>vR.ownBlock=some j∨j=kb) W (W7.setCell ⟨kb,0,none⟩ v7)∧Below B W (W7.setCell ⟨kb,0,none⟩ v7)∧KBlk kb vR vS W7:=by
 obtain⟨e1,e2,hk7⟩:=zQ7 h.kblk hRo (by decide) hg7 0 v7;have hbs:Below B W (W7.setCell ⟨kb,0,none⟩ v7):=hb7.setCell (p:=⟨kb,0,none⟩) hBk v7;have hE:Below E W (W7.setCell ⟨kb,0,none⟩ v7):=hbs.mono hEB;have hm:∀{u R},RMade E B W u R→RMade E B (W7.setCell ⟨kb,0,none⟩ v7) u R:=fun hu=>hu.typed (fun j cur hj=>e2 j cur _ hj (by decide) (by decide)) hE
 obtain⟨zss,hSo,_⟩:=h.states.ex;refine⟨⟨⟨xss++[[vl]],ho7.same fun g hg=>zAc _ _ _ _ (fun e=>?_),by simp[hxl],fun i R hi=>?_⟩,h.states.kept hbs.size (fun j hj=>?_) (fun j cur _ hj=>e2 j cur _ hj (by decide) (by decide)),GOwn.same h.arcs fun g hg=>?_,⟨by rw[zAu hk7.blk];rfl⟩,⟨?_⟩,⟨?_⟩⟩,⟨hbs.os,hbs.tape,hbs.output,hbs.size,fun j hj hn=>e1 j hj (fun e=>hn (.inl e)) (fun e=>hn (.inr e))⟩,hbs,hk7⟩
 · obtain⟨_,c2,hc2⟩:=ho7.block hg
   rw[e,hk7.blk]at hc2;simp only[Option.some.injEq,Obj.cells.injEq]at hc2;exact absurd hc2.2.1 (by decide)
 · by_cases hi2:i<D.length
   · rw[List.getElem?_append_left hi2]at hi
     obtain⟨u,g1,g2⟩:=hxe i R hi;exact⟨u,by rw[List.getElem?_append_left (by omega)];exact g1,hm g2⟩
   · have hi3:i=D.length:=by
      have:=(List.getElem?_eq_some_iff.1 hi).1;simp at this;omega
     subst hi3;rw[List.getElem?_append_right (Nat.le_refl _)]at hi;simp at hi;subst hi;exact⟨vl,by rw[List.getElem?_append_right (by omega),hxl];simp,hm hl⟩
 · obtain⟨_,cur,hc⟩:=hSo.block hj
   exact e2 j cur _ hc (by decide) (by decide)
 · obtain⟨_,cur,hc⟩:=GOwn.block h.arcs hg
   exact e2 g cur _ hc (by decide) (by decide)
 · rw[e1 rb h.rblk.lt (fun e=>?_) hrk]
   · exact h.rblk.blk
   · obtain⟨_,c2,hc2⟩:=hRo.block e
     rw[h.rblk.blk]at hc2;simp only[Option.some.injEq,Obj.cells.injEq]at hc2;exact absurd hc2.2.1 (by decide)
 · rw[e2 sb _ _ h.sblk.blk (by decide) (by decide)]
   exact h.sblk.blk
theorem zWl{A:Nat→Prop}{E B kb rb sb:Nat}{vR vS va v9:Value}{D:List (List En)}{b:List St}{acc:List Arc}{fn:Bool}{ot:Int}{W W9:World}{o:Obj}{zss:List (List Value)}(h:EndAt A E B kb rb sb vR vS va D b acc fn ot W)(hSo:GOwn 91 3 B W vS zss)(hzl:zss.length=b.length)(hze:∀(i:Nat) (s:St),b[i]?=some s→∃va,zss[i]?=some [.bool s.final,.int .i64 s.out,va]∧AOwn B W va s.arcs∧∀k,va.ownBlock=some k→A k)(hEB:E≤B)(hBk:B≤kb)(hrk:rb≠kb)
 (ho9:GOwn 91 3 B W9 v9 (zss++[[.bool fn,.int .i64 ot,va]])) (hb9:Below B W W9) (hg9:(W.alloc o).grownBy W9 vS.ownBlock):AllOwn E B (W9.setCell ⟨kb,1,none⟩ v9) vR D∧StA (fun j=>A j∨va.ownBlock=some j) B (W9.setCell ⟨kb,1,none⟩ v9) v9 (b++[⟨fn,ot,acc⟩])∧KBlk kb vR v9 (W9.setCell ⟨kb,1,none⟩ v9)∧KBlk rb (.slice none 0 0) (.slice none 0 0) (W9.setCell ⟨kb,1,none⟩ v9)∧Upd (fun j=>vS.ownBlock=some j∨j=kb) W (W9.setCell ⟨kb,1,none⟩ v9)∧Below B W (W9.setCell ⟨kb,1,none⟩ v9)∧KBlk kb vR vS W9:=by
 obtain⟨e1,e2,hk9⟩:=zQ7 h.kblk hSo (by decide) hg9 1 v9;have hbs:Below B W (W9.setCell ⟨kb,1,none⟩ v9):=hb9.setCell (p:=⟨kb,1,none⟩) hBk v9;have hE:Below E W (W9.setCell ⟨kb,1,none⟩ v9):=hbs.mono hEB;have ha:∀{u l},AOwn B W u l→AOwn B (W9.setCell ⟨kb,1,none⟩ v9) u l:=fun hu=>GOwn.same hu fun g hg=>(by obtain⟨_,cur,hc⟩:=GOwn.block hu hg;exact e2 g cur _ hc (by decide) (by decide))
 refine⟨h.rests.typed (fun j cur hj=>e2 j cur _ hj (by decide) (by decide)) (fun j cur hj=>e2 j cur _ hj (by decide) (by decide)) hE,⟨⟨zss++[[.bool fn,.int .i64 ot,va]],ho9.same fun g hg=>zAc _ _ _ _ (fun e=>?_),by simp[hzl],fun i s hi=>?_⟩,fun k hk=>?_⟩,⟨by rw[zAu hk9.blk];rfl⟩,⟨?_⟩,⟨hbs.os,hbs.tape,hbs.output,hbs.size,fun j hj hn=>e1 j hj (fun e=>hn (.inl e)) (fun e=>hn (.inr e))⟩,hbs,hk9⟩
 · obtain⟨_,c2,hc2⟩:=ho9.block hg
   rw[e,hk9.blk]at hc2;simp only[Option.some.injEq,Obj.cells.injEq]at hc2;exact absurd hc2.2.1 (by decide)
 · by_cases hi2:i<b.length
   · rw[List.getElem?_append_left hi2]at hi
     obtain⟨u,g1,g2,g3⟩:=hze i s hi;exact⟨u,by rw[List.getElem?_append_left (by omega)];exact g1,ha g2,fun k hk => .inl (g3 k hk)⟩
   · have hi3:i=b.length:=by
      have:=(List.getElem?_eq_some_iff.1 hi).1;simp at this;omega
     subst hi3;rw[List.getElem?_append_right (Nat.le_refl _)]at hi;simp at hi;subst hi;exact⟨va,by rw[List.getElem?_append_right (by omega),hzl];simp,ha h.arcs,fun k hk => .inr hk⟩
 · rcases hk with hk|hk
   · exact Nat.lt_of_lt_of_le (h.states.lt k hk) hbs.size
   · exact Nat.lt_of_lt_of_le (GOwn.lt h.arcs hk) hbs.size
 · rw[e1 rb h.rblk.lt (fun e=>?_) hrk]
   · exact h.rblk.blk
   · obtain⟨_,c2,hc2⟩:=hSo.block e
     rw[h.rblk.blk]at hc2;simp only[Option.some.injEq,Obj.cells.injEq]at hc2;exact absurd hc2.2.1 (by decide)
end
