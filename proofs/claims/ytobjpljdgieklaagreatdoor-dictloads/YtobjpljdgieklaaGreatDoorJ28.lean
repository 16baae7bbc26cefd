import Derived.Test.YtobjpljdgieklaaGreatDoorJ25
import Derived.Test.YtobjpljdgieklaaGreatDoorJ26
import Derived.TacticsInMore
import Derived.OwnWalkIn
import Derived.Sort.Statements
import Derived.Shelf.SlSortCmp.Insertion
set_option maxRecDepth 100000
set_option maxHeartbeats 8000000
namespace Go.Proofs.YtobjpljdgieklaaGreatDoor
namespace Pk
open Go.Proofs.YtobjpljdgieklaaGreatDoor.Nums Go.Proofs.YtobjpljdgieklaaGreatDoor.Fm Go.Proofs.YtobjpljdgieklaaGreatDoor
theorem zL2{S R:List En}(h:Sub S R){P:Int→Prop}:(∀e∈S,∀c∈e.1,P c)→∀e∈R,∀c∈e.1,P c:=by
 induction h with
 |here S=>
  intro hS e he c hc;obtain⟨x,hx,rfl⟩:=List.mem_map.1 he;exact hS x hx c hc
 |step hp _ ih=>
  intro hS;refine ih fun e he c hc=>?_
  obtain⟨x,hx,rfl⟩:=zV9 _ _ (Nat.le_refl _) _ hp e he;exact hS x (zEb hx) c (List.mem_of_mem_tail hc)
theorem zM5{l:List Pr}(h:zAl l=0):∀e∈ents l,∀c∈e.1,zC7 c=true:=by
 unfold zAl at h
 split at h
 · cases h
 · have ha:=zFw l none h
   intro e he c hc;obtain⟨x,hx,rfl⟩:=List.mem_map.1 he;have hw:=(ha x hx).1;obtain⟨xs,h1,_,_,_,h4⟩:=zA4 hw;unfold zAq at hw;rw[h1]at hw;simp only[Bool.and_eq_true]at hw;rw[zCw,h1]at hc;simp only[Option.getD_some]at hc;unfold zC7;rw[List.all_eq_true.1 h4 c hc,List.all_eq_true.1 hw.2 c hc];rfl
theorem zJo{l:List Pr}(h:zAl l=0)(hl:l≠[]):∃D,Fm.Inv D (stF 25 [] (ents l)).1∧Rests (least (ents l)) D:=by
 have hG:=zCd h hl;have hD:=zB2 h;obtain⟨D,M⟩:=zCe 25 [] [] (ents l) Inv.nil hG;have hI:=M.inv;have hne:=zK6 hl;obtain⟨z0,hz0,hz0w⟩:=zB1 hne;have hw0:=hD.en.wt z0 hz0;rw[hz0w]at hw0;have hsub:∀R∈D,Sub (ents l) R:=fun R hR=>(M.sub R hR).resolve_left (fun h=>by cases h)
 have hR:Rests (least (ents l)) D:=by
  have hb:∀R∈D,∃B:List En,R=zAd B∧B.length≤(ents l).length∧∀e∈B,∃x∈ents l,e.2=x.2∧e.1.length≤x.1.length:=fun R hR=>by
   obtain⟨xs,n,hx,k,hk,rfl⟩:=zJ7 (hsub R hR) hD.rise hne;exact⟨_,rfl,zEv _ _,fun e he=>zEu _ _ _ he⟩
  refine⟨fun R hR=>(hI.lv R hR).1,fun R hR e he=>?_,fun R hR e he=>?_,fun R hR=>?_,fun R hR e he=>?_,fun R hR=>zL2 (hsub R hR) (zM5 h),hw0.1,hw0.2⟩
  · have:=zCb he
    rw[(hI.lv R hR).2]at this;exact this
  · obtain⟨B,rfl,_,h3⟩:=hb R hR
    obtain⟨x,hx,rfl⟩:=List.mem_map.1 he;obtain⟨y,hy,_,h5⟩:=h3 x hx;have:=hD.en.ln y hy;simp only;omega
  · obtain⟨B,rfl,h2,_⟩:=hb R hR
    (have h3:(zAd B).length=B.length:=by simp[zAd,zAh]);(have h4:(ents l).length=l.length:=by simp[ents]);have:=hD.len;omega
  · obtain⟨B,rfl,_,h3⟩:=hb R hR
    obtain⟨x,hx,rfl⟩:=List.mem_map.1 he;obtain⟨y,hy,h4,_⟩:=h3 x hx;(have hB:B≠[]:=fun e=>by rw[e]at hx;cases hx);obtain⟨u,hu,hu2⟩:=zB1 hB;obtain⟨v,hv,h5,_⟩:=h3 u hu;have h6:=zCb hv;have h7:=hD.en.wt y hy;simp only;omega
 exact⟨D,hI,hR⟩
theorem zPa{l:List Pr}(h:zAl l=0):∀(i:Nat) (s:St),(zAg l).2[i]?=some s→(0≤s.out∧s.out≤1048576)∧∀a∈s.arcs,(0≤a.label∧a.label<1114112)∧(0≤a.out∧a.out≤1048576)∧a.to<i:=by
 intro i s hi;by_cases hl:l=[]
 · subst hl
   simp[zAg]at hi
 have hM:zAg l=(least (ents l),(stF 25 [] (ents l)).1):=by rw[zAg,if_pos ⟨h,hl⟩]
 rw[hM]at hi;obtain⟨D,hI,hR⟩:=zJo h hl;simp only at hi;refine⟨?_,fun a ha=>?_⟩
 · obtain⟨e1,_,e3⟩:=hI.row i s hi
   obtain⟨l1,_,_⟩:=zCp hI hi;cases hf:s.final with
   |false=>rw[e3.fin hf];omega
   |true=>
    (have hin:(([]:List Int),s.out)∈exp D s:=by unfold exp fins;rw[hf];simp);have:=hR.wt _ (List.mem_of_getElem? e1) _ hin;have:=hR.lo;have:=l1 hf;simp only at *;omega
 · obtain⟨a1,a2,a3,a4⟩:=zDk hI hR hi a ha
   unfold zC7 at a4;simp only[Bool.and_eq_true]at a4;have:=of_decide_eq_true a4.1;exact⟨⟨this.1,this.2.1⟩,⟨a2,a3⟩,a1⟩
theorem zQn{l:List Pr}:(zAg l).2.length≤102400:=by
 rw[zAg]
 split
 · rename_i h
   have hg:=zCd h.1 h.2;have h1:=(zFi 25 [] (ents l) (zEk 25 _ hg.1 hg.2.1 hg.2.2)).2.1;have h2:=zO9 (zB2 h.1).en.ln;rw[zBb]at h2;have h3:=(zB2 h.1).len;simp only[List.length_nil]at h1;show(stF 25 [] (ents l)).1.length≤102400;omega
 · simp
theorem zIf{l:List Pr}(h:zAl l=0):rightB (zAg l).1 ((zAg l).2.map ofSt)=true:=by
 by_cases hl:l=[]
 · subst hl
   rfl
 have hG:=zCd h hl;have hD:=zB2 h;have hM:zAg l=(least (ents l),(stF 25 [] (ents l)).1):=by rw[zAg,if_pos ⟨h,hl⟩]
 obtain⟨D,M⟩:=zCe 25 [] [] (ents l) Inv.nil hG;obtain⟨e1,e2⟩:=zL9 25 [] [] (ents l) Inv.nil hG;rw[hM];simp only;have hI:=M.inv;have hne:=zK6 hl;obtain⟨z0,hz0,hz0w⟩:=zB1 hne;have hw0:=hD.en.wt z0 hz0;rw[hz0w]at hw0;have hsub:∀R∈D,Sub (ents l) R:=fun R hR=>(M.sub R hR).resolve_left (fun h=>by cases h)
 have hR:Rests (least (ents l)) D:=by
  have hb:∀R∈D,∃B:List En,R=zAd B∧B.length≤(ents l).length∧∀e∈B,∃x∈ents l,e.2=x.2∧e.1.length≤x.1.length:=fun R hR=>by
   obtain⟨xs,n,hx,k,hk,rfl⟩:=zJ7 (hsub R hR) hD.rise hne;exact⟨_,rfl,zEv _ _,fun e he=>zEu _ _ _ he⟩
  refine⟨fun R hR=>(hI.lv R hR).1,fun R hR e he=>?_,fun R hR e he=>?_,fun R hR=>?_,fun R hR e he=>?_,fun R hR=>zL2 (hsub R hR) (zM5 h),hw0.1,hw0.2⟩
  · have:=zCb he
    rw[(hI.lv R hR).2]at this;exact this
  · obtain⟨B,rfl,_,h3⟩:=hb R hR
    obtain⟨x,hx,rfl⟩:=List.mem_map.1 he;obtain⟨y,hy,_,h5⟩:=h3 x hx;have:=hD.en.ln y hy;simp only;omega
  · obtain⟨B,rfl,h2,_⟩:=hb R hR
    (have h3:(zAd B).length=B.length:=by simp[zAd,zAh]);(have h4:(ents l).length=l.length:=by simp[ents]);have:=hD.len;omega
  · obtain⟨B,rfl,_,h3⟩:=hb R hR
    obtain⟨x,hx,rfl⟩:=List.mem_map.1 he;obtain⟨y,hy,h4,_⟩:=h3 x hx;(have hB:B≠[]:=fun e=>by rw[e]at hx;cases hx);obtain⟨u,hu,hu2⟩:=zB1 hB;obtain⟨v,hv,h5,_⟩:=h3 u hu;have h6:=zCb hv;have h7:=hD.en.wt y hy;simp only;omega
 have hrl:(refF 25 [] [] (ents l)).2=stF 25 [] (ents l):=e1;have hv:=zP7 25 [] [] (ents l) Inv.nil hG;rw[hrl]at hv;obtain⟨v1,v2,_,v4⟩:=hv.resolve_left (fun h=>by simp at h);generalize stF 25 [] (ents l)=r at *;obtain⟨b,nr⟩:=r;simp only at *;have hb0:b≠[]:=fun e=>by rw[e]at v1;simp at v1
 have hnum:numB (b.map ofSt)=true:=by
  unfold numB;have hnr:(b.map ofSt).length-1=nr:=by rw[List.length_map];omega
  have:=v4 b (List.prefix_refl _) ((b.map ofSt).length+25) (by omega);simp only[List.length_nil]at this;rw[hnr,this];rfl
 have hroot:((b.map ofSt).getD ((b.map ofSt).length-1) ⟨false,0,[]⟩).final=false:=by
  have hnr:(b.map ofSt).length-1=nr:=by rw[List.length_map];omega
  rw[hnr];obtain⟨s,hs⟩:∃s,b[nr]?=some s:=⟨b[nr]'(by omega),List.getElem?_eq_getElem _⟩;have hst:(b.map ofSt).getD nr ⟨false,0,[]⟩=ofSt s:=by rw[List.getD_eq_getElem?_getD,List.getElem?_map,hs];rfl
  rw[hst];obtain⟨q1,q2,q3⟩:=hI.row nr s hs;have hnum:=M.num;simp only at hnum;rw[hnum]at q1;obtain⟨g1,_⟩:=zK5 hI.lv q3;rw[←Option.some.inj q1,zAd,zH7]at g1;simp only[ofSt];rw[←g1];obtain⟨e,r,he⟩:=List.exists_cons_of_ne_nil hne;rw[he];have:=hD.pos e (by rw[he];simp);obtain⟨x,n⟩:=e;cases x with
  |nil=>exact absurd rfl this
  |cons c t=>rfl
 have hnd:(b.map ofSt).Nodup:=by
  unfold List.Nodup;rw[List.pairwise_map,List.pairwise_iff_getElem];intro i j hi hj hij e;have h1:=(hI.row i _ (List.getElem?_eq_getElem hi)).1;have h2:=(hI.row j _ (List.getElem?_eq_getElem hj)).1;rw[ofSt_inj e]at h1;have hlt1:=(List.getElem?_eq_some_iff.1 h1).1;have hlt2:=(List.getElem?_eq_some_iff.1 h2).1;have:=zGg hI.nd hlt1 hlt2 (by rw[h1,h2]);omega
 have hbnd:bndB (least (ents l)) [] (b.map ofSt)=true:=by
  have:=zXb hI hR b.length (Nat.le_refl _);simpa using this
 have hform:=form_inv hI hR;have hmn:b.map ofSt≠[]:=by simpa using hb0
 unfold rightB;rw[if_neg hmn,hroot,hform,hbnd,hnum,decide_eq_true hnd,decide_eq_true hw0];rfl
end Pk
namespace Pk
open Go.Proofs.YtobjpljdgieklaaGreatDoor.Nums Go.Proofs.YtobjpljdgieklaaGreatDoor.Fm Go.Proofs.YtobjpljdgieklaaGreatDoor
def ud(head:List Int)(sum:Int)(R:List En):List En:=R.map fun e=>(head++e.1,sum+e.2)
theorem zLv(head:List Int)(sum:Int)(R S:List En):ud head sum (R++S)=ud head sum R++ud head sum S:=List.map_append
theorem zHk(head:List Int)(sum:Int)(R:List En):(ud head sum R).length=R.length:=by simp[ud]
theorem ud_arc(head:List Int)(sum c o:Int)(R:List En):ud head sum ((zAh o R).map (pre c))=ud (head++[c]) (sum+o) R:=by
 simp only[ud,zAh,List.map_map];refine List.map_congr_left fun e _=>?_
 simp only[Function.comp,pre,List.append_assoc,List.singleton_append,Prod.mk.injEq,true_and];omega
def udA(D:List (List En))(head:List Int)(sum:Int)(l:List Arc):List En:=l.flatMap fun a=>ud (head++[a.label]) (sum+a.out) (D[a.to]?.getD [])
def udF(head:List Int)(sum:Int)(s:St):List En:=if s.final then [(head,sum+s.out)]else []
theorem udA_snoc(D:List (List En))(head:List Int)(sum:Int)(l:List Arc)(a:Arc):udA D head sum (l++[a])=udA D head sum l++ud (head++[a.label]) (sum+a.out) (D[a.to]?.getD []):=by simp[udA]
theorem zTj(D:List (List En))(head:List Int)(sum:Int):∀l:List Arc,ud head sum (flat (outs D l))=udA D head sum l
 |[]=>rfl
 |a::l=>by
  have e:flat (outs D (a::l))=(zAh a.out (D[a.to]?.getD [])).map (pre a.label)++flat (outs D l):=by simp[flat,outs]
  rw[e,zLv,ud_arc,zTj D head sum l];simp[udA]
theorem zPt(D:List (List En))(s:St)(head:List Int)(sum:Int):ud head sum (exp D s)=udF head sum s++udA D head sum s.arcs:=by
 rw[exp,zLv,zTj];congr 1;unfold fins udF ud;cases s.final<;>simp
theorem zK4(D:List (List En))(s:St):(exp D s).length=(if s.final then 1 else 0)+(s.arcs.map fun a=>(D[a.to]?.getD []).length).sum:=by
 have h:=congrArg List.length (zPt D s [] 0);rw[zHk,List.length_append]at h;rw[h];congr 1
 · unfold udF;cases s.final<;>rfl
 · unfold udA
   rw[List.length_flatMap];congr 1;exact List.map_congr_left fun a _=>zHk _ _ _
structure MW(l:List Pr)(base:Int)(b:List St)(D:List (List En)):Prop where
 inv:Inv D b
 rst:Rests base D
 ne:b≠[]
 root:D[b.length-1]?=some (zAd (ents l))
 top:ud [] base (zAd (ents l))=ents l
theorem mach_walk{l:List Pr}(h:zAl l=0)(hl:l≠[]):∃D,MW l (zAg l).1 (zAg l).2 D:=by
 have hg:=zCd h hl;obtain⟨D,M⟩:=zCe 25 [] [] (ents l) Inv.nil hg;obtain⟨D2,hI2,hR⟩:=zJo h hl;have e:=zK0 M.inv hI2;subst e;have hrl:(stF 25 [] (ents l)).2+1=(stF 25 [] (ents l)).1.length:=zL8 (f:=24) hg;have hM:zAg l=(least (ents l),(stF 25 [] (ents l)).1):=by rw[zAg,if_pos ⟨h,hl⟩]
 rw[hM];refine⟨D,M.inv,hR,fun e=>?_,?_,?_⟩
 · simp only at e
   rw[e]at hrl;simp at hrl
 · simp only
   rw[←hrl,Nat.add_sub_cancel];exact M.num
 · have:zAh (least (ents l)) (zAd (ents l))=ents l:=by rw[zDm,Int.sub_self,zCk]
   conv=>rhs;rw[←this]
   unfold ud zAh;(refine List.map_congr_left fun e _=>?_);simp only[List.nil_append,Prod.mk.injEq,true_and];omega
def prW(e:En):Pr:=(zAv e.1,e.2)
theorem zLx{x:Pr}(hx:∃xs,rs x.1.data.toList=some xs):zAv (zCw x).1=x.1:=by
 obtain⟨xs,hx⟩:=hx;obtain⟨h1,h2⟩:=zEi hx;have e:(zCw x).1=xs:=by rw[zCw,hx];rfl
 rw[e];have h1':allR xs=true:=h1;unfold zAv;rw[if_pos h1'];have h3:(xs.flatMap wrI).map (fun n=>UInt8.ofNat n.toNat)=x.1.data.toList:=by
  rw[←h2,List.map_flatMap];rfl
 unfold strOfNums;rw[h3]
theorem zUi{l:List Pr}(h:Wd l):(ents l).map prW=l:=by
 unfold ents;rw[List.map_map]
 conv=>rhs;rw[←List.map_id l]
 refine List.map_congr_left fun x hx=>?_
 obtain⟨xs,h1,_⟩:=h x hx;simp only[Function.comp,id];exact Prod.ext (zLx ⟨xs,h1⟩) rfl
structure Tells(base:Int)(head:List Int)(sum:Int)(R:List En):Prop where
 ln:∀e∈R,head.length+e.1.length≤24
 wt:∀e∈R,sum+e.2≤1048576
 lo:0≤sum
 hr:∀c∈head,zC7 c=true
theorem Tells.arc{base:Int}{D:List (List En)}{b:List St}(hI:Inv D b)(hR:Rests base D){i:Nat}{s:St}(hi:b[i]?=some s){head:List Int}{sum:Int}(h:Tells base head sum (exp D s)){a:Arc}(ha:a∈s.arcs):Tells base (head++[a.label]) (sum+a.out) (D[a.to]?.getD [])∧head.length<24∧sum+a.out≤1048576:=by
 obtain⟨e1,e2,e3⟩:=hI.row i s hi;have ht:=e3.to a ha;have hg:D[a.to]?.getD []=D[a.to]:=by rw[List.getElem?_eq_getElem ht];rfl
 obtain⟨f1,f2,f3,f4⟩:=zDk hI hR hi a ha;rw[hg];have hne:=hR.ne _ (List.getElem_mem ht);obtain⟨e0,he0⟩:=List.exists_mem_of_ne_nil _ hne;have key:∀e∈D[a.to],head.length+1+e.1.length≤24∧sum+a.out+e.2≤1048576:=fun e he=>by
  have hin:=arc_in ha ht he;have h1:=h.ln _ hin;have h2:=h.wt _ hin;simp only[List.length_cons]at h1 h2;omega
 have hk0:=key e0 he0;have hn0:=hR.nn _ (List.getElem_mem ht) e0 he0;have hlo:=h.lo;refine⟨⟨fun e he=>?_,fun e he=>(key e he).2,by omega,fun c hc=>?_⟩,by omega,by omega⟩
 · have:=(key e he).1
   simp only[List.length_append,List.length_singleton];omega
 · rcases List.mem_append.1 hc with hc|hc
   · exact h.hr c hc
   · rw[List.mem_singleton.1 hc];exact f4
theorem MW.tells{l:List Pr}{base:Int}{b:List St}{D:List (List En)}(h:MW l base b D):Tells base [] base (zAd (ents l)):=by
 have hm:=List.mem_of_getElem? h.root;refine⟨fun e he=>by simpa using h.rst.ln _ hm e he,fun e he=>?_,by have:=h.rst.lo;omega,fun c hc=>by cases hc⟩;have:=h.rst.wt _ hm e he;omega
theorem zHj{xs:List Int}(h:∀c∈xs,zC7 c=true):allR xs=true:=by
 unfold allR;refine List.all_eq_true.2 fun c hc=>?_
 have:=h c hc;unfold zC7 at this;simp only[Bool.and_eq_true]at this;exact this.1
end Pk
section
open Go.RowKit Nums Fm Pk
def zEz(c:Nat):List Value:=[.int .i64 (c:Int)]
theorem rtyN:RTy 3 118 1 8:=⟨by kernel_rfl,⟨.int .i64 0,by kernel_rfl,rfl⟩,by decide,by decide⟩
structure WkAt(E:Nat)(w:World)(wb:Nat)(base:Int)(m:List RSt)(cs:List Nat):Prop where
 lt:wb<E
 ex:∃vs vw,w.heap[wb]?=some (.cells #[.int .i64 base,vs,vw] 121)∧StsAt E w vs m∧GRow E 1 w vw (cs.map zEz)
theorem WkAt.below{E:Nat}{w w':World}{wb:Nat}{base:Int}{m:List RSt}{cs:List Nat}(h:WkAt E w wb base m cs)(hb:Below E w w'):WkAt E w' wb base m cs:=by
 obtain⟨vs,vw,h1,h2,h3⟩:=h.ex;exact⟨h.lt,vs,vw,(hb.block wb h.lt).trans h1,h2.below hb,h3.below hb⟩
theorem WkAt.facts{E:Nat}{w:World}{wb:Nat}{base:Int}{m:List RSt}{cs:List Nat}(h:WkAt E w wb base m cs):∃sd sc wd wc,w.cell? ⟨wb,0,none⟩=some (.int .i64 base)∧w.cell? ⟨wb,1,none⟩=some (.slice sd m.length sc)∧w.cell? ⟨wb,2,none⟩=some (.slice wd cs.length wc)∧StsAt E w (.slice sd m.length sc) m∧GRow E 1 w (.slice wd cs.length wc) (cs.map zEz):=by
 obtain⟨vs,vw,h1,h2,h3⟩:=h.ex;obtain⟨sd,sc,rfl⟩:=h2.shape;obtain⟨wd,wc,rfl⟩:=h3.shape;rw[List.length_map]at h1 h3;exact⟨sd,sc,wd,wc,by simp[World.cell?,h1],by simp[World.cell?,h1],by simp[World.cell?,h1],h2,h3⟩
theorem GRow.num{E:Nat}{w:World}{ad:Option Addr}{n cap:Nat}{cs:List Nat}(h:GRow E 1 w (.slice ad n cap) (cs.map zEz)){k c:Nat}(hc:cs[k]?=some c):∃g off,ad=some ⟨g,off,none⟩∧g<E∧w.cell? ⟨g,off+k,none⟩=some (.int .i64 (c:Int)):=by
 obtain⟨ad',cap',hv,hx⟩:=h.ex;simp only[Value.slice.injEq]at hv;have hk:=(List.getElem?_eq_some_iff.1 hc).1;obtain⟨g,off,rfl,hg,hx⟩:=hx (by rw[List.length_map];omega);have e:(cs.map zEz)[k]?=some (zEz c):=by rw[List.getElem?_map,hc];rfl
 have:=hx k 0 _ _ e rfl;rw[Nat.mul_one,Nat.add_zero]at this;exact⟨g,off,hv.1,hg,this⟩
theorem zHh(E:Nat)(w:World)(wb:Nat)(base:Int)(m:List RSt)(cs:List Nat)(h:WkAt E w wb base m cs):
 Calls Tryz.prog 70 #[.pointer (some ⟨wb,0,none⟩)] w fun e w'=>e = .returned (.int .i64 ((m.length:Int)-1))∧w'=w:=by
 obtain⟨sd,sc,wd,wc,c0,c1,c2,hS,_⟩:=h.facts;have hl:=hS.len;go_enter Tryz.func70,Tryz.ntmps70;go_wp2;go_ret;exact⟨by go_num,rfl⟩
theorem Base_any(E:Nat)(w:World)(wb:Nat)(base:Int)(m:List RSt)(cs:List Nat)(h:WkAt E w wb base m cs):
 Calls Tryz.prog 75 #[.pointer (some ⟨wb,0,none⟩)] w fun e w'=>e = .returned (.int .i64 base)∧w'=w:=by
 obtain⟨sd,sc,wd,wc,c0,c1,c2,hS,_⟩:=h.facts;go_enter Tryz.func75,Tryz.ntmps75;go_wp2;go_ret;exact⟨rfl,rfl⟩
end
section
open Go.RowKit Nums Fm Pk
attribute [local go_sem] Oper.semAt_some
def zJq(c:Int):List Value:=[.int .i32 c]
theorem zW6(c:Int):zGr 1 (zJq c):=⟨rfl,by simp[zJq,Value.oneCell']⟩
theorem rtyC:RTy 21 122 1 4:=⟨by kernel_rfl,⟨.int .i32 0,by kernel_rfl,rfl⟩,by decide,by decide⟩
abbrev COwn(B:Nat)(w:World)(v:Value)(l:List Int):Prop:=GOwn 21 1 B w v (l.map zJq)
theorem COwn.row{B:Nat}{w:World}{v:Value}{l:List Int}(h:COwn B w v l):Row w v l:=by
 obtain⟨ad,cap,hv,_⟩:=GOwn.shape h;rw[List.length_map]at hv;refine⟨ad,cap,hv,fun h0=>?_⟩;obtain⟨g,c2,hv2,hg,_,_,hc⟩:=GOwn.cell h (by rw[List.length_map];exact h0);rw[hv]at hv2;simp only[Value.slice.injEq]at hv2;refine⟨g,0,hv2.1,fun i hi=>?_⟩;have e:(l.map zJq)[i]?=some (zJq (l.getD i 0)):=by
  rw[List.getElem?_map,List.getElem?_eq_getElem hi,List.getD_eq_getElem?_getD,List.getElem?_eq_getElem hi];rfl
 have:=hc i 0 _ _ e rfl;rw[Nat.mul_one,Nat.add_zero]at this;rw[Nat.zero_add];exact this
theorem GOwn.pop{T:TypeId}{k B:Nat}{w:World}{v:Value}{xss:List (List Value)}{x:List Value}(h:GOwn T k B w v (xss++[x])):∃g cap,v = .slice (some ⟨g,0,none⟩) (xss.length+1) cap∧xss.length+1≤cap∧GOwn T k B w (.slice (some ⟨g,0,none⟩) xss.length cap) xss:=by
 obtain⟨hc,hl,⟨e,h0⟩|⟨g,cap,cur,hv,h1,hh,h3,h4,h5,h6⟩⟩:=h
 · simp at h0
 · rw[List.length_append,List.length_singleton]at hv h3 hl h6
   (have hk:∀y∈xss,y.length=k:=fun y hy=>(hc y (List.mem_append.2 (.inl hy))).1);have hfl:xss.flatten.length=xss.length*k:=by
    clear h6 hl hv h3 hc
    induction xss with
    |nil=>simp
    |cons y r ih=>rw[List.flatten_cons,List.length_append,hk y (by simp),ih (fun z hz=>hk z (by simp[hz])),List.length_cons,Nat.add_mul];omega
   refine⟨g,cap,hv,h3,fun y hy=>hc y (List.mem_append.2 (.inl hy)),hfl,.inr ⟨g,cap,cur,rfl,h1,hh,by omega,h4,h5,?_⟩⟩;have h7:=congrArg (List.take (xss.length*k)) h6;rw[List.take_take,List.flatten_append,←hfl,List.take_left]at h7;rw[←h7,hfl];congr 1;have:xss.length*k≤(xss.length+1)*k:=Nat.mul_le_mul_right _ (by omega);omega
structure TrAt(B:Nat)(W:World)(tb wb k:Nat)(pv yv:Value)(path:List Int):Prop where
 lo:B≤tb
 blk:W.heap[tb]?=some (.cells #[.pointer (some ⟨wb,0,none⟩),.int .i64 (k:Int),pv,yv] 210)
 row:COwn B W pv path
theorem TrAt.lt{B:Nat}{W:World}{tb wb k:Nat}{pv yv:Value}{path:List Int}(h:TrAt B W tb wb k pv yv path):tb<W.heap.size:=(Array.getElem?_eq_some_iff.1 h.blk).1
theorem TrAt.facts{B:Nat}{W:World}{tb wb k:Nat}{pv yv:Value}{path:List Int}(h:TrAt B W tb wb k pv yv path):W.cell? ⟨tb,0,none⟩=some (.pointer (some ⟨wb,0,none⟩))∧W.cell? ⟨tb,1,none⟩=some (.int .i64 (k:Int))∧W.cell? ⟨tb,2,none⟩=some pv∧W.cell? ⟨tb,3,none⟩=some yv∧∀o,W.frozen? ⟨tb,o,none⟩=false:=
 ⟨by simp[World.cell?,h.blk],by simp[World.cell?,h.blk],by simp[World.cell?,h.blk],by simp[World.cell?,h.blk],fun o=>by simp[World.frozen?,h.blk]⟩
theorem TrAt.kept{B:Nat}{W W':World}{tb wb k:Nat}{pv yv:Value}{path:List Int}(h:TrAt B W tb wb k pv yv path)(e1:W'.heap[tb]?=W.heap[tb]?)(e2:∀g,pv.ownBlock=some g→W'.heap[g]?=W.heap[g]?):TrAt B W' tb wb k pv yv path:=
 ⟨h.lo,e1.trans h.blk,GOwn.same h.row e2⟩
theorem TrAt.below{B:Nat}{W W':World}{tb wb k:Nat}{pv yv:Value}{path:List Int}(h:TrAt B W tb wb k pv yv path)(hb:Below W.heap.size W W'):TrAt B W' tb wb k pv yv path:=
 h.kept (hb.block tb h.lt) (fun g hg=>hb.block g (GOwn.lt h.row hg))
theorem zTl(B:Nat)(W:World)(tb wb k:Nat)(pv yv:Value)(path:List Int)(weight:Int)(h:TrAt B W tb wb (k+1) pv yv path)(hk:k+1≤9223372036854775807):
 Calls Tryz.prog 166 #[.pointer (some ⟨tb,0,none⟩),.int .i64 weight] W fun e W'=>e = .returned (.bool true)∧W'=W.setCell ⟨tb,1,none⟩ (.int .i64 (k:Int)):=by
 obtain⟨c0,c1,c2,c3,fz⟩:=h.facts;have fz1:=fz 1;have hz:(0:Int)<((k+1:Nat):Int):=by omega
 have hz2:((k+1:Nat):Int)-1=(k:Int):=by omega
 clear h;go_enter Tryz.func166,Tryz.ntmps166;go_wp2;go_ret;exact⟨rfl,rfl⟩
theorem tell_now(B:Nat)(W:World)(tb wb:Nat)(pv yv:Value)(path:List Int)(weight:Int)(h:TrAt B W tb wb 0 pv yv path)(hT:Tabs W)(hp:path.length≤24)(I X:CI)(A:Nat→Prop)(pre:List Pr)(hI:zF5 B I)(T:List Pr)(hY:zXk T yv I X)(hPT:pre++[(zAv path,weight)]<+:T)(hA:Lies A W)(h0:I A pre W):
 Calls Tryz.prog 166 #[.pointer (some ⟨tb,0,none⟩),.int .i64 weight] W (zXl I X A pre (zAv path,weight) W):=by
 obtain⟨c0,c1,c2,c3,fz⟩:=h.facts;have HTX:Hid (Calls Tryz.prog 153 #[pv] W fun e w'=>e = .returned (.tuple #[.string (zAv path),.bool (allR path)])∧Below W.heap.size W w'):=zLg pv path W hT h.row.row (by omega);have HTR:Hid (TrAt B W tb wb 0 pv yv path):=h;have HC3:Hid (∀w',Below W.heap.size W w'→w'.cell? ⟨tb,3,none⟩=some yv):=fun w' hb=>(HTR.out.below hb).facts.2.2.2.1
 have HY:Hid (∀w',Below W.heap.size W w'→YC yv (zAv path,weight) w' (zXl I X A pre (zAv path,weight) W)):=fun w' hb=>by
  refine(hY A pre (zAv path,weight) w' hPT (hI _ _ _ _ h0 (Upd.of_below hb)) (fun k hk=>Nat.lt_of_lt_of_le (hA k hk) hb.size)).mono ?_;rintro e w2 (⟨rfl,A',h1,h2,h3,h4⟩|⟨rfl,A',h1,h2,h3,h4⟩)
  · exact .inl ⟨rfl,A',⟨h1.1,fun k hk=>(h1.2 k hk).imp id (fun g=>Nat.le_trans hb.size g)⟩,h2,(Upd.of_below hb).trans h3 (fun _ _ h=>h),h4⟩
  · exact .inr ⟨rfl,A',⟨h1.1,fun k hk=>(h1.2 k hk).imp id (fun g=>Nat.le_trans hb.size g)⟩,h2,(Upd.of_below hb).trans h3 (fun _ _ h=>h),h4⟩
 obtain⟨R,hR⟩:∃R,zXl I X A pre (zAv path,weight) W=R:=⟨_,rfl⟩;rw[hR]at HY ⊢;have HRB:Hid (∀e w',R e w'→∃b,e = .returned (.bool b)):=fun e w' he=>by
  rw[←hR]at he;rcases he with⟨rfl,_⟩|⟨rfl,_⟩
  · exact⟨_,rfl⟩
  · exact⟨_,rfl⟩
 obtain⟨tx,htx⟩:∃tx,zAv path=tx:=⟨_,rfl⟩;rw[htx]at HY HTX;clear hI hY hPT hA h0 hT hR h htx;obtain⟨l,hyl⟩:∃l,yv = .func (.yield l) #[] #[]:=by obtain⟨l,h1,_⟩:=HY.out W (Below.refl _ _);exact⟨l,h1⟩
 subst hyl;have HYl:Hid (∀w',Below W.heap.size W w'→YieldAt Fence.wide 0 Tryz.prog l #[zSa (tx,weight)] w' R):=fun w' hb=>by
  obtain⟨l',h1,h2⟩:=HY.out w' hb;cases h1;exact h2 0
 clear HY;have hdd:∀k:Nat,(Fence.wide.depth.isSome=true→1≤k):=fun k h=>by simp[Fence.wide]at h
 refine(callsIn_wide (n:=1)).1 ?_;refine callsIn_of_wp Tryz.func166 rfl trivial ?_ rfl;simp only[Tryz.ntmps166,List.size_toArray,List.length_cons,List.length_nil,Nat.reduceAdd,Nat.reduceSub,Array.replicate_succ,Array.replicate_zero,List.push_toArray,List.append_toArray,List.nil_append,List.cons_append]
 gi_wp2_with (first
  |(refine⟨trivial,?_⟩;gi_at_call 153;refine(callsIn_wide.2 HTX.out).mono ?_;rintro e w1 ⟨rfl,hb1⟩;have c3':=HC3.out w1 hb1;obtain⟨fn,tmps,asg,bd,hyy,hRr⟩:=HYl.out w1 hb1;simp only[zSa]at hyy;clear hb1)
  |(refine hRr.mono ?_;clear hRr;intro e w2 he;obtain⟨b,rfl⟩:=HRB.out e w2 he))
 exact he
end
section
open Go.RowKit Nums Fm Pk
structure VS(w0:World)(B tb wb:Nat)(yv:Value)(I:CI)(A:Nat→Prop)(pre:List Pr)(W:World)(k:Nat)(pv:Value)(path:List Int):Prop where
 bel:Below w0.heap.size w0 W
 tr:TrAt B W tb wb k pv yv path
 nt:¬A tb
 np:∀g,pv.ownBlock=some g→¬A g∧g≠tb
 lies:Lies A W
 loA:∀j,A j→w0.heap.size≤j
 inv:I A pre W
variable {w0:World} {B tb wb:Nat} {yv:Value} {I:CI} {A A':Nat→Prop} {pre pre':List Pr} {W W':World} {k:Nat} {pv:Value} {path:List Int}
theorem VS.below(h:VS w0 B tb wb yv I A pre W k pv path)(hI:zF5 B I)(hb:Below W.heap.size W W'):VS w0 B tb wb yv I A pre W' k pv path:=
 ⟨h.bel.trans (hb.mono h.bel.size),h.tr.below hb,h.nt,h.np,fun j hj=>Nat.lt_of_lt_of_le (h.lies j hj) hb.size,h.loA,hI _ _ _ _ h.inv (Upd.of_below hb)⟩
theorem VS.cons(h:VS w0 B tb wb yv I A pre W k pv path)(he:Ext A A' W)(hl:Lies A' W')(hu:Upd A W W')(hi:I A' pre' W'):VS w0 B tb wb yv I A' pre' W' k pv path:=by
 have hlt:=h.tr.lt;refine⟨h.bel.trans (hu.below h.bel.size h.loA),h.tr.kept (hu.block tb hlt h.nt) (fun g hg=>hu.block g (GOwn.lt h.tr.row hg) (h.np g hg).1),fun ha=>(he.2 tb ha).elim h.nt (fun g=>by omega),fun g hg=>⟨fun ha=>(he.2 g ha).elim (h.np g hg).1 (fun h2=>by have:=GOwn.lt h.tr.row hg;omega),(h.np g hg).2⟩,hl,fun j hj=>(he.2 j hj).elim (h.loA j) (fun h2=>Nat.le_trans h.bel.size h2),hi⟩
theorem zBp(W:World)(tb o:Nat)(x:Value):Upd (fun j=>j=tb) W (W.setCell ⟨tb,o,none⟩ x):=by
 obtain⟨h1,h2,h3,h4⟩:=zA3 W tb o x;exact⟨h1,h2,h3,by omega,fun k _ hk=>Below.heap_setCell W ⟨tb,o,none⟩ x k hk⟩
theorem VS.skip(h:VS w0 B tb wb yv I A pre W k pv path)(hB:w0.heap.size≤B)(hI:zF5 B I)(k2:Nat):VS w0 B tb wb yv I A pre (W.setCell ⟨tb,1,none⟩ (.int .i64 (k2:Int))) k2 pv path:=by
 have hu:=zBp W tb 1 (.int .i64 (k2:Int));have hlo:=h.tr.lo;refine⟨h.bel.trans (hu.below h.bel.size (fun j e=>by omega)),⟨hlo,by rw[zAu h.tr.blk];rfl,GOwn.same h.tr.row fun g hg=>hu.block g (GOwn.lt h.tr.row hg) (h.np g hg).2⟩,h.nt,h.np,fun j hj=>Nat.lt_of_lt_of_le (h.lies j hj) hu.size,h.loA,hI _ _ _ _ h.inv (hu.mono fun j e=>by subst e;exact⟨h.nt,hlo⟩)⟩
def NewP(W:World)(pv pv':Value):Prop:=pv'.ownBlock=pv.ownBlock∨∃g,pv'.ownBlock=some g∧W.heap.size≤g
theorem NewP.trans{W W':World}{a b c:Value}(h:NewP W a b)(h':NewP W' b c)(hs:W.heap.size≤W'.heap.size):NewP W a c:=by
 rcases h' with h'|⟨g,h1,h2⟩
 · rcases h with h|⟨g,h1,h2⟩
   · exact .inl (h'.trans h)
   · exact .inr ⟨g,h'.trans h1,h2⟩
 · exact .inr ⟨g,h1,Nat.le_trans hs h2⟩
theorem VS.push{V4:World}{pv':Value}{c:Int}(h:VS w0 B tb wb yv I A pre W k pv path)(hB:w0.heap.size≤B)(hI:zF5 B I)(hb4:Below W.heap.size W V4)(hg:V4.grownBy W' pv.ownBlock)(ho:COwn B W' pv' (path++[c]))(hob:pv'.ownBlock=pv.ownBlock∨∃g,pv'.ownBlock=some g∧V4.heap.size≤g):
 VS w0 B tb wb yv I A pre (W'.setCell ⟨tb,2,none⟩ pv') k pv' (path++[c])∧Upd (fun j=>j=tb∨pv.ownBlock=some j) W (W'.setCell ⟨tb,2,none⟩ pv')∧NewP W pv pv'∧W'.cell? ⟨tb,2,none⟩=some pv∧W'.frozen? ⟨tb,2,none⟩=false:=by
 have hlt:=h.tr.lt;have hlo:=h.tr.lo;have hlt4:tb<V4.heap.size:=Nat.lt_of_lt_of_le hlt hb4.size;have hu1:Upd (fun j=>pv.ownBlock=some j) W W':=(Upd.of_below hb4).trans (G:=fun j=>pv.ownBlock=some j) ⟨hg.os,hg.tape,hg.output,hg.size,fun j hj hn=>hg.block j hj (fun e=>hn e.symm)⟩ (fun _ _ g=>g);have hnp:pv.ownBlock≠some tb:=fun e=>(h.np tb e).2 rfl
 have hblk:W'.heap[tb]?=some (.cells #[.pointer (some ⟨wb,0,none⟩),.int .i64 (k:Int),pv,yv] 210):=(hu1.block tb hlt hnp).trans h.tr.blk;have hu2:=zBp W' tb 2 pv';have hu:Upd (fun j=>j=tb∨pv.ownBlock=some j) W (W'.setCell ⟨tb,2,none⟩ pv'):=(hu1.mono fun j e => .inr e).trans (hu2.mono fun j e => .inl e) (fun _ _ g=>g);have hnew:∀g,pv'.ownBlock=some g→¬A g∧g≠tb:=fun g hg'=>by
  rcases hob with e|⟨g2,e,h2⟩
  · exact h.np g (e▸hg')
  · rw[e]at hg'
    cases hg';exact⟨fun ha=>by have:=h.lies g ha;have:=hb4.size;omega,by omega⟩
 refine⟨⟨h.bel.trans (hu.below h.bel.size fun j hj=>?_),⟨hlo,by rw[zAu hblk];rfl,GOwn.same ho fun g hg'=>hu2.block g (GOwn.lt ho hg') (hnew g hg').2⟩,h.nt,hnew,fun j hj=>Nat.lt_of_lt_of_le (h.lies j hj) hu.size,h.loA,hI _ _ _ _ h.inv (hu.mono fun j hj=>?_)⟩,hu,?_,by simp[World.cell?,hblk],by simp[World.frozen?,hblk]⟩
 · rcases hj with e|e
   · omega
   · exact Nat.le_trans hB (GOwn.block h.tr.row e).1
 · rcases hj with e|e
   · subst e;exact⟨h.nt,hlo⟩
   · exact⟨(h.np j e).1,(GOwn.block h.tr.row e).1⟩
 · rcases hob with e|⟨g2,e,h2⟩
   · exact .inl e
   · exact .inr ⟨g2,e,Nat.le_trans hb4.size h2⟩
theorem VS.pop{c:Int}(h:VS w0 B tb wb yv I A pre W k pv (path++[c]))(hB:w0.heap.size≤B)(hI:zF5 B I):∃g cap,pv = .slice (some ⟨g,0,none⟩) (path.length+1) cap∧path.length+1≤cap ∧
 VS w0 B tb wb yv I A pre (W.setCell ⟨tb,2,none⟩ (.slice (some ⟨g,0,none⟩) path.length cap)) k (.slice (some ⟨g,0,none⟩) path.length cap) path:=by
 have hr:=h.tr.row;unfold COwn at hr;rw[List.map_append]at hr;obtain⟨g,cap,hv,hc,ho⟩:=GOwn.pop hr;rw[List.length_map]at hv hc ho;refine⟨g,cap,hv,hc,?_⟩;have hu:=zBp W tb 2 (.slice (some ⟨g,0,none⟩) path.length cap);have hlo:=h.tr.lo;have hgo:pv.ownBlock=some g:=by rw[hv];rfl
 refine⟨h.bel.trans (hu.below h.bel.size (fun j e=>by omega)),⟨hlo,by rw[zAu h.tr.blk];rfl,GOwn.same ho fun g' hg'=>?_⟩,h.nt,fun g' hg'=>?_,fun j hj=>Nat.lt_of_lt_of_le (h.lies j hj) hu.size,h.loA,hI _ _ _ _ h.inv (hu.mono fun j e=>by subst e;exact⟨h.nt,hlo⟩)⟩
 · cases hg'
   exact hu.block g (GOwn.lt ho rfl) (h.np g hgo).2
 · cases hg'
   exact h.np g hgo
def zNs(w0:World)(B tb wb:Nat)(yv:Value)(I X:CI)(A:Nat→Prop)(pre:List Pr)(W:World)(k:Nat)(pv:Value)(path:List Int)(L:List Pr)(e:Ending)(W':World):Prop:=
 (e = .returned (.bool true)∧∃A' pv',Ext A A' W∧Upd (fun j=>A j∨j=tb∨pv.ownBlock=some j) W W'∧VS w0 B tb wb yv I A' (pre++L.drop k) W' (k-L.length) pv' path∧NewP W pv pv') ∨
 (e = .returned (.bool false)∧∃q A',q<+:L.drop k∧Ext A A' W∧Lies A' W'∧Upd (fun j=>A j∨j=tb∨pv.ownBlock=some j) W W'∧X A' (pre++q) W')
def tw(path:List Int)(weight:Int)(R:List En):List Pr:=(ud path weight R).map prW
def tF(path:List Int)(weight:Int)(s:St):List Pr:=(udF path weight s).map prW
def tA(D:List (List En))(path:List Int)(weight:Int)(l:List Arc):List Pr:=(udA D path weight l).map prW
theorem zLw(D:List (List En))(s:St)(path:List Int)(weight:Int):tw path weight (exp D s)=tF path weight s++tA D path weight s.arcs:=by rw[tw,zPt,List.map_append];rfl
theorem zJ4(D:List (List En))(path:List Int)(weight:Int){l:List Arc}{j:Nat}{a:Arc}(h:l[j]?=some a):tA D path weight (l.take (j+1))=tA D path weight (l.take j)++tw (path++[a.label]) (weight+a.out) (D[a.to]?.getD []):=by
 rw[List.take_add_one,h,tA];simp only[Option.toList_some];rw[udA_snoc,List.map_append];rfl
theorem tw_len(path:List Int)(weight:Int)(R:List En):(tw path weight R).length=R.length:=by rw[tw,List.length_map,zHk]
theorem zWo{X Y:List Pr}{k:Nat}(h:Y.length≤k-X.length):(X++Y).drop k=X.drop k:=by
 rw[List.drop_append,List.drop_eq_nil_of_le h,List.append_nil]
theorem zQc{X Y Z q:List Pr}{k:Nat}(hq:q<+:Y.drop (k-X.length)):X.drop k++q<+:(X++Y++Z).drop k:=by
 obtain⟨t,ht⟩:=hq;rw[List.append_assoc,List.drop_append,List.drop_append,←ht];exact⟨t++Z.drop (k-X.length-Y.length),by simp[List.append_assoc]⟩
theorem zPv(D:List (List En))(path:List Int)(weight:Int)(l:List Arc)(i:Nat):tA D path weight l=tA D path weight (l.take i)++tA D path weight (l.drop i):=by
 conv=>lhs;rw[←List.take_append_drop i l]
 unfold tA udA;rw[List.flatMap_append,List.map_append]
theorem wrap_pl{pl:Nat}(h:pl<24):IntKind.i64.wrap (pl:Int)=(pl:Int):=by
 first|exact wrap_small _ (by omega) (by omega)|(rw[IntKind.wrap_i64];exact IntWalk.wrap64_in _ (by omega))|(rw[IntKind.wrap_i64];unfold wrap64;omega)
structure VL(w0:World)(B tb wb:Nat)(yv:Value)(I:CI)(A:Nat→Prop)(pre:List Pr)(Ws:World)(k:Nat)(pv:Value)(path:List Int)(L:List Pr)(A1:Nat→Prop)(pv1:Value)(wr:World):Prop where
 ext:Ext A A1 Ws
 upd:Upd (fun j=>A j∨j=tb∨pv.ownBlock=some j) Ws wr
 new:NewP Ws pv pv1
 vs:VS w0 B tb wb yv I A1 (pre++L.drop k) wr (k-L.length) pv1 path
variable {Ws wr W7 W8 W9:World} {L Y:List Pr} {A1 A2:Nat→Prop} {pv1 pv2 pv3:Value} {X:CI}
theorem VL.skip(h:VL w0 B tb wb yv I A pre Ws k pv path L A1 pv1 wr)(hB:w0.heap.size≤B)(hI:zF5 B I)(hb7:Below wr.heap.size wr W7)(hy:Y.length≤k-L.length):VL w0 B tb wb yv I A pre Ws k pv path (L++Y) A1 pv1 (W7.setCell ⟨tb,1,none⟩ (.int .i64 ((k-L.length-Y.length:Nat):Int))):=by
 have hv:=(h.vs.below hI hb7).skip hB hI (k-L.length-Y.length);have e:k-(L++Y).length=k-L.length-Y.length:=by rw[List.length_append];omega
 refine⟨h.ext,(h.upd.trans (G:=fun j=>A j∨j=tb∨pv.ownBlock=some j) (Upd.of_below hb7) (fun _ _ g=>g)).trans (G:=fun j=>j=tb) (zBp _ _ _ _) (fun _ _ g => .inr (.inl g)),h.new,?_⟩;rw[zWo hy,e];exact hv
theorem VL.deep{c:Int}(h:VL w0 B tb wb yv I A pre Ws k pv path L A1 pv1 wr)(hB:w0.heap.size≤B)(hI:zF5 B I)(hb7:Below wr.heap.size wr W7)(hu8:Upd (fun j=>j=tb∨pv1.ownBlock=some j) W7 W8)(hn8:NewP W7 pv1 pv2)(he9:Ext A1 A2 W8)(hu9:Upd (fun j=>A1 j∨j=tb∨pv2.ownBlock=some j) W8 W9)(hn9:NewP W8 pv2 pv3)
 (hv9:VS w0 B tb wb yv I A2 (pre++L.drop k++Y.drop (k-L.length)) W9 (k-L.length-Y.length) pv3 (path++[c])):∃g cap,pv3 = .slice (some ⟨g,0,none⟩) (path.length+1) cap∧path.length+1≤cap∧VL w0 B tb wb yv I A pre Ws k pv path (L++Y) A2 (.slice (some ⟨g,0,none⟩) path.length cap) (W9.drew.setCell ⟨tb,2,none⟩ (.slice (some ⟨g,0,none⟩) path.length cap)):=by
 have hbd:Below W9.heap.size W9 W9.drew:=(Below.refl _ W9).drew;obtain⟨g,cap,hv,hc,hvp⟩:=(hv9.below hI hbd).pop hB hI;refine⟨g,cap,hv,hc,?_⟩;have hs7:Ws.heap.size≤W7.heap.size:=Nat.le_trans h.upd.size hb7.size;have hs8:Ws.heap.size≤W8.heap.size:=Nat.le_trans hs7 hu8.size;have n1:NewP Ws pv pv2:=h.new.trans hn8 hs7;have n2:NewP Ws pv pv3:=n1.trans hn9 hs8;have e:k-(L++Y).length=k-L.length-Y.length:=by rw[List.length_append];omega
 have hp:∀{q:Value},NewP Ws pv q→∀j,j<Ws.heap.size→q.ownBlock=some j→pv.ownBlock=some j:=fun hn j hj hq=>by
  rcases hn with h1|⟨g,h1,h2⟩
  · exact h1▸hq
  · rw[h1]at hq;cases hq;omega
 refine⟨h.ext.trans he9 hs8,?_,?_,?_⟩
 · refine(((h.upd.trans (G:=fun j=>A j∨j=tb∨pv.ownBlock=some j) (Upd.of_below hb7) (fun _ _ g=>g)).trans hu8 (fun j hj g=>?_)).trans hu9 (fun j hj g=>?_)).trans (G:=fun j=>j=tb) ((Upd.of_below (F:=fun j=>j=tb) hbd).trans (zBp _ _ _ _) (fun _ _ g=>g)) (fun _ _ g => .inr (.inl g))
   · rcases g with g|g
     · exact .inr (.inl g)
     · exact .inr (.inr (hp h.new j hj g))
   · rcases g with g|g|g
     · exact(h.ext.2 j g).elim .inl (fun h2=>by omega)
     · exact .inr (.inl g)
     · exact .inr (.inr (hp n1 j hj g))
 · have:(Value.slice (some ⟨g,0,none⟩) path.length cap).ownBlock=pv3.ownBlock:=by rw[hv];rfl
   rcases n2 with h1|⟨g2,h1,h2⟩
   · exact .inl (this.trans h1)
   · exact .inr ⟨g2,this.trans h1,h2⟩
 · rw[List.drop_append,e,←List.append_assoc]
   exact hvp
theorem VL.stop(h:VL w0 B tb wb yv I A pre Ws k pv path L A1 pv1 wr)(hs:Below W.heap.size W Ws)(hb7:Below wr.heap.size wr W7)(hu8:Upd (fun j=>j=tb∨pv1.ownBlock=some j) W7 W8)(hn8:NewP W7 pv1 pv2)(he9:Ext A1 A2 W8)(hu9:Upd (fun j=>A1 j∨j=tb∨pv2.ownBlock=some j) W8 W9):Ext A A2 W∧Upd (fun j=>A j∨j=tb∨pv.ownBlock=some j) W W9:=by
 have hs7:Ws.heap.size≤W7.heap.size:=Nat.le_trans h.upd.size hb7.size;have hs8:Ws.heap.size≤W8.heap.size:=Nat.le_trans hs7 hu8.size;have n1:NewP Ws pv pv2:=h.new.trans hn8 hs7;have hp:∀{q:Value},NewP Ws pv q→∀j,j<Ws.heap.size→q.ownBlock=some j→pv.ownBlock=some j:=fun hn j hj hq=>by
  rcases hn with h1|⟨g,h1,h2⟩
  · exact h1▸hq
  · rw[h1]at hq;cases hq;omega
 have he:=h.ext.trans he9 hs8;refine⟨⟨he.1,fun j hj=>(he.2 j hj).imp id (fun g=>Nat.le_trans hs.size g)⟩,?_⟩;refine(Upd.of_below hs).trans (((h.upd.trans (G:=fun j=>A j∨j=tb∨pv.ownBlock=some j) (Upd.of_below hb7) (fun _ _ g=>g)).trans hu8 (fun j hj g=>?_)).trans hu9 (fun j hj g=>?_)) (fun _ _ g=>g)
 · rcases g with g|g
   · exact .inr (.inl g)
   · exact .inr (.inr (hp h.new j hj g))
 · rcases g with g|g|g
   · exact(h.ext.2 j g).elim .inl (fun h2=>by omega)
   · exact .inr (.inl g)
   · exact .inr (.inr (hp n1 j hj g))
theorem VL.out(h:VL w0 B tb wb yv I A pre Ws k pv path L A1 pv1 wr)(hs:Below W.heap.size W Ws):zNs w0 B tb wb yv I X A pre W k pv path L (.returned (.bool true)) wr:=by
 refine .inl ⟨rfl,A1,pv1,⟨h.ext.1,fun j hj=>(h.ext.2 j hj).imp id (fun g=>Nat.le_trans hs.size g)⟩,(Upd.of_below hs).trans h.upd (fun _ _ g=>g),h.vs,?_⟩;rcases h.new with h1|⟨g,h1,h2⟩
 · exact .inl h1
 · exact .inr ⟨g,h1,Nat.le_trans hs.size h2⟩
end
namespace Pk
def cmpI(a b:Int):Int:=if a<b then -1 else if b<a then 1 else 0
def orI:List Int→Int
 |[]=>0
 |c::r=>if c≠0 then c else orI r
def cmpA(x y:RArc):Int:=orI [cmpI x.label y.label,cmpI x.out y.out,cmpI x.to y.to]
def cmpL:List RArc→List RArc→Int
 |[],[]=>0
 |[],_::_ => -1
 |_::_,[]=>1
 |x::xs,y::ys=>if cmpA x y≠0 then cmpA x y else cmpL xs ys
def zBw(s:RSt):Int:=2*s.arcs.length+(if s.final then 1 else 0)
def cmpH(s t:RSt):Int:=orI [cmpI (zBw s) (zBw t),cmpI s.out t.out]
def cmpS(s t:RSt):Int:=if cmpH s t≠0 then cmpH s t else cmpL s.arcs t.arcs
structure Ord3{α:Type}(c:α→α→Int):Prop where
 eq:∀x y,c x y=0↔x=y
 anti:∀x y,c x y<0↔0<c y x
 tr:∀x y z,c x y<0→c y z<0→c x z<0
theorem zFy:Ord3 cmpI:=by
 refine⟨fun x y=>?_,fun x y=>?_,fun x y z=>?_⟩<;>unfold cmpI
 · repeat' split
   all_goals omega
 · repeat' split
   all_goals omega
 · repeat' split
   all_goals omega
theorem Ord3.then{α β γ:Type}{c:α→α→Int}{d:β→β→Int}(hc:Ord3 c)(hd:Ord3 d)(p:γ→α)(q:γ→β)(inj:∀x y,p x=p y→q x=q y→x=y):Ord3 fun x y:γ=>if c (p x) (p y)≠0 then c (p x) (p y)else d (q x) (q y):=by
 have c0:∀x y,c x y=0↔c y x=0:=fun x y=>by rw[hc.eq,hc.eq];exact eq_comm
 refine⟨fun x y=>?_,fun x y=>?_,fun x y z=>?_⟩
 · split
   · rename_i h
     exact⟨fun e=>absurd e h,fun e=>absurd ((hc.eq _ _).2 (congrArg p e)) h⟩
   · rename_i h
     have h':c (p x) (p y)=0:=Decidable.byContradiction h;exact⟨fun e=>inj x y ((hc.eq _ _).1 h') ((hd.eq _ _).1 e),fun e=>(hd.eq _ _).2 (congrArg q e)⟩
 · by_cases h:c (p x) (p y)=0
   · rw[if_neg (fun hn=>hn h),if_neg (fun hn=>hn ((c0 _ _).1 h))]
     exact hd.anti _ _
   · rw[if_pos h,if_pos (fun hn=>h ((c0 _ _).2 hn))]
     exact hc.anti _ _
 · by_cases h1:c (p x) (p y)=0
   · have e1:=(hc.eq _ _).1 h1
     rw[if_neg (fun hn=>hn h1)];by_cases h2:c (p y) (p z)=0
     · have e2:=(hc.eq _ _).1 h2
       rw[if_neg (fun hn=>hn h2),e1,if_neg (fun hn=>hn h2)];exact hd.tr _ _ _
     · rw[if_pos h2,e1,if_pos h2]
       exact fun _ h=>h
   · rw[if_pos h1]
     by_cases h2:c (p y) (p z)=0
     · have e2:=(hc.eq _ _).1 h2
       rw[if_neg (fun hn=>hn h2),←e2,if_pos h1];exact fun h _=>h
     · rw[if_pos h2]
       intro g1 g2;have:=hc.tr _ _ _ g1 g2;rw[if_pos (by omega)];exact this
theorem cmpA_ord:Ord3 cmpA:=by
 have h:=Ord3.then (γ:=RArc) zFy (Ord3.then (γ:=Int×Int) zFy zFy (·.1) (·.2) (fun x y h1 h2=>Prod.ext h1 h2)) (·.label) (fun a=>(a.out,a.to)) (fun x y h1 h2=>by
  cases x;cases y;simp only[Prod.mk.injEq]at h1 h2;rw[h1,h2.1,h2.2])
 have e:cmpA=fun x y:RArc=>if cmpI x.label y.label≠0 then cmpI x.label y.label else if cmpI x.out y.out≠0 then cmpI x.out y.out else cmpI x.to y.to:=by
  funext x y;unfold cmpA orI orI orI orI;by_cases h1:cmpI x.label y.label=0
  · by_cases h2:cmpI x.out y.out=0
    · by_cases h3:cmpI x.to y.to=0<;>simp[h1,h2,h3]
    · simp[h1,h2]
  · simp[h1]
 rw[e];exact h
theorem zWy:∀x y,cmpL x y=0↔x=y
 |[],[]=>by simp[cmpL]
 |[],_::_=>by simp[cmpL]
 |_::_,[]=>by simp[cmpL]
 |x::xs,y::ys=>by
  rw[cmpL];by_cases h:cmpA x y=0
  · rw[if_neg (fun hn=>hn h),zWy xs ys,(cmpA_ord.eq _ _).1 h]
    simp
  · rw[if_pos h]
    exact⟨fun e=>absurd e h,fun e=>absurd ((cmpA_ord.eq _ _).2 (List.cons.inj e).1) h⟩
theorem zNd:∀x y,cmpL x y<0↔0<cmpL y x
 |[],[]=>by simp[cmpL]
 |[],_::_=>by simp[cmpL]
 |_::_,[]=>by simp[cmpL]
 |x::xs,y::ys=>by
  rw[cmpL,cmpL];have c0:cmpA x y=0↔cmpA y x=0:=by rw[cmpA_ord.eq,cmpA_ord.eq];exact eq_comm
  by_cases h:cmpA x y=0
  · rw[if_neg (fun hn=>hn h),if_neg (fun hn=>hn (c0.1 h))]
    exact zNd xs ys
  · rw[if_pos h,if_pos (fun hn=>h (c0.2 hn))]
    exact cmpA_ord.anti _ _
theorem zWw:∀x y z,cmpL x y<0→cmpL y z<0→cmpL x z<0
 |[],[],_,h,_=>by simp[cmpL]at h
 |[],_::_,[],_,h=>by simp[cmpL]at h
 |[],_::_,_::_,_,_=>by simp[cmpL]
 |_::_,[],_,h,_=>by simp[cmpL]at h
 |_::_,_::_,[],_,h=>by simp[cmpL]at h
 |x::xs,y::ys,z::zs,h1,h2=>by
  rw[cmpL]at h1 h2 ⊢;by_cases g1:cmpA x y=0
  · have e1:=(cmpA_ord.eq _ _).1 g1
    rw[if_neg (fun hn=>hn g1)]at h1;subst e1;by_cases g2:cmpA x z=0
    · rw[if_neg (fun hn=>hn g2)]at h2 ⊢
      exact zWw xs ys zs h1 h2
    · rw[if_pos g2]at h2 ⊢
      exact h2
  · rw[if_pos g1]at h1
    by_cases g2:cmpA y z=0
    · have e2:=(cmpA_ord.eq _ _).1 g2
      subst e2;rw[if_pos g1];exact h1
    · rw[if_pos g2]at h2
      have:=cmpA_ord.tr _ _ _ h1 h2;rw[if_pos (by omega)];exact this
theorem cmpL_ord:Ord3 cmpL:=⟨zWy,zNd,zWw⟩
theorem cmpS_ord:Ord3 cmpS:=by
 have hh:Ord3 fun x y:Int×Int=>if cmpI x.1 y.1≠0 then cmpI x.1 y.1 else cmpI x.2 y.2:=Ord3.then zFy zFy (·.1) (·.2) (fun x y h1 h2=>Prod.ext h1 h2)
 have h:=Ord3.then (γ:=RSt) hh cmpL_ord (fun s=>(zBw s,s.out)) (·.arcs) (fun x y h1 h2=>by
  simp only[Prod.mk.injEq]at h1;obtain⟨h3,h4⟩:=h1;unfold zBw at h3;rw[h2]at h3;cases x with
  |mk f1 o1 a1=>
   cases y with
   |mk f2 o2 a2=>
    simp only at h2 h3 h4;subst h2 h4;cases f1<;>cases f2<;>simp at h3 ⊢<;>omega)
 have e:cmpS=fun s t:RSt=>if (if cmpI (zBw s) (zBw t)≠0 then cmpI (zBw s) (zBw t)else cmpI s.out t.out)≠0 then (if cmpI (zBw s) (zBw t)≠0 then cmpI (zBw s) (zBw t)else cmpI s.out t.out)else cmpL s.arcs t.arcs:=by
  funext s t;have eh:cmpH s t=if cmpI (zBw s) (zBw t)≠0 then cmpI (zBw s) (zBw t)else cmpI s.out t.out:=by
   unfold cmpH orI orI orI;by_cases h1:cmpI (zBw s) (zBw t)=0
   · by_cases h2:cmpI s.out t.out=0<;>simp[h1,h2]
   · simp[h1]
  unfold cmpS;rw[eh]
 rw[e];exact h
end Pk
namespace Pk
open Go.Sort
def zS:RSt:=⟨false,0,[]⟩
def cfS(m:List RSt)(i j:Nat):Int:=cmpS (m.getD i zS) (m.getD j zS)
theorem zFx(s:RSt):cmpS s s=0:=(cmpS_ord.eq _ _).2 rfl
theorem cmpS_pos{s t:RSt}(h:0<cmpS s t):cmpS t s<0:=(cmpS_ord.anti _ _).2 h
theorem zO2{s t:RSt}(h:¬cmpS s t<0):s=t∨cmpS t s<0:=by
 by_cases h0:cmpS s t=0
 · exact .inl ((cmpS_ord.eq _ _).1 h0)
 · exact .inr (cmpS_pos (by omega))
theorem cfS_swo(m:List RSt):SWO (Go.Proofs.ltOf (cfS m)):=by
 refine⟨fun x=>?_,fun x y z=>?_,fun x y z=>?_⟩<;>unfold Go.Proofs.ltOf cfS
 · rw[zFx];rfl
 · simp only[decide_eq_true_eq]
   exact cmpS_ord.tr _ _ _
 · simp only[decide_eq_false_iff_not]
   intro h1 h2 h3;rcases zO2 h1 with e1|g1
   · rw[e1]at h3;exact h2 h3
   · rcases zO2 h2 with e2|g2
     · rw[←e2]at h3;exact h1 h3
     · have:=cmpS_ord.tr _ _ _ g2 g1
       have h4:=(cmpS_ord.anti _ _).1 h3;omega
theorem zQd{d:Array Nat}{n:Nat}(hp:d.toList.Perm (List.range n)){a:Nat}(ha:a<n):∃i,i<d.size∧d[i]! = a:=by
 have:=hp.mem_iff.2 (List.mem_range.2 ha);obtain⟨i,hi,e⟩:=List.getElem_of_mem this;have hi':i<d.size:=by simpa using hi
 exact⟨i,hi',by rw[getElem!_pos d i hi'];simpa using e⟩
theorem zUk{d:Array Nat}{n:Nat}(hp:d.toList.Perm (List.range n)){i:Nat}(hi:i<d.size):d[i]!<n:=by
 rw[getElem!_pos d i hi];exact List.mem_range.1 (hp.mem_iff.1 (by simp))
theorem zXi{m:List RSt}{d:Array Nat}(hs:SortedIn (Go.Proofs.ltOf (cfS m)) 0 m.length d)(hadj:∀i,i+1<m.length→cfS m d[i]! d[i+1]!≠0):∀(k i:Nat),i+k+1<m.length→cfS m d[i]! d[i+k+1]!<0
 |0,i,h=>by
  have h1:=hs i (i+1) (Nat.zero_le _) (by omega) (by omega);have h2:=hadj i (by omega);unfold Go.Proofs.ltOf at h1;have h1':=of_decide_eq_false h1;show cfS m d[i]! d[i+1]!<0;unfold cfS at h1' h2 ⊢;rcases zO2 h1' with e|g
  · rw[e,zFx]at h2;exact absurd rfl h2
  · exact g
 |k+1,i,h=>by
  have h1:=zXi hs hadj k i (by omega);have h2:=zXi hs hadj 0 (i+k+1) (by omega);exact cmpS_ord.tr _ _ _ h1 h2
theorem zUr{m:List RSt}{d:Array Nat}(hd:d.size=m.length)(hp:d.toList.Perm (List.range m.length))(hs:SortedIn (Go.Proofs.ltOf (cfS m)) 0 m.length d)(hadj:∀i,i+1<m.length→cfS m d[i]! d[i+1]!≠0):m.Nodup:=by
 unfold List.Nodup;rw[List.pairwise_iff_getElem];intro a b ha hb hab e;obtain⟨i,hi,hia⟩:=zQd hp ha;obtain⟨j,hj,hjb⟩:=zQd hp hb;have hf:∀x,(hx:x<m.length)→m.getD x zS=m[x]:=fun x hx=>by rw[List.getD_eq_getElem?_getD,List.getElem?_eq_getElem hx];rfl
 have key:∀i j,i<j→j<m.length→d[i]!≠d[j]!→cfS m d[i]! d[j]!<0:=fun i j h1 h2 _=>by
  have:=zXi hs hadj (j-i-1) i (by omega)
  rwa [show i+(j-i-1)+1=j by omega]at this
 have hc:cfS m a b=0:=by unfold cfS;rw[hf a ha,hf b hb,e,zFx]
 have hc':cfS m b a=0:=by unfold cfS;rw[hf a ha,hf b hb,e,zFx]
 rcases Nat.lt_trichotomy i j with h|h|h
 · have:=key i j h (by omega) (by rw[hia,hjb];omega)
   rw[hia,hjb]at this;omega
 · subst h
   rw[hia]at hjb;omega
 · have:=key j i h (by omega) (by rw[hia,hjb];omega)
   rw[hia,hjb]at this;omega
theorem dup_adj{m:List RSt}{d:Array Nat}(hd:d.size=m.length)(hp:d.toList.Perm (List.range m.length)){i:Nat}(hi:i+1<m.length)(h:cfS m d[i]! d[i+1]! = 0):¬m.Nodup:=fun hn=>by
 have h1:=zUk hp (i:=i) (by omega);have h2:=zUk hp (i:=i+1) (by omega);have hne:d[i]!≠d[i+1]!:=by
  have hnd:d.toList.Nodup:=hp.nodup_iff.2 List.nodup_range;unfold List.Nodup at hnd;rw[List.pairwise_iff_getElem]at hnd;have:=hnd i (i+1) (by simpa using(show i<d.size by omega)) (by simpa using(show i+1<d.size by omega)) (by omega);rw[getElem!_pos d i (by omega),getElem!_pos d (i+1) (by omega)];simpa using this
 have he:=(cmpS_ord.eq _ _).1 h;have hf:∀x,(hx:x<m.length)→m.getD x zS=m[x]:=fun x hx=>by rw[List.getD_eq_getElem?_getD,List.getElem?_eq_getElem hx];rfl
 rw[hf _ h1,hf _ h2]at he;unfold List.Nodup at hn;rw[List.pairwise_iff_getElem]at hn;rcases Nat.lt_trichotomy d[i]! d[i+1]! with h|h|h
 · exact hn _ _ h1 h2 h he
 · exact hne h
 · exact hn _ _ h2 h1 h he.symm
end Pk
