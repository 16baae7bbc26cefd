import Derived.Test.YtobjpljdgieklaaGreatDoorJ15
import Derived.Test.YtobjpljdgieklaaGreatDoorJ18
import Derived.Test.YtobjpljdgieklaaGreatDoorFBuild
import Derived.Test.YtobjpljdgieklaaGreatDoorJ17
import Derived.Test.YtobjpljdgieklaaGreatDoorJ8
import Derived.Test.YtobjpljdgieklaaGreatDoorJ7
import Derived.ArgAppend
import Derived.Test.YtobjpljdgieklaaGreatDoorJ9
import Derived.Deep.QuietTactic
import Derived.BigQuiet
import Derived.Laws.StructEq
import Derived.Below
import Derived.Carry
import Derived.Deep.Cut
import Derived.Handy
import Derived.WalkSmall
import Derived.Shelf.SlSortCmp.KitK
set_option maxRecDepth 100000
namespace Go.Proofs.YtobjpljdgieklaaGreatDoor
namespace Pk
open Go.Proofs.YtobjpljdgieklaaGreatDoor.Nums Go.Proofs.YtobjpljdgieklaaGreatDoor.Fm
def zAs(a:Arc):RArc:=⟨a.label,a.out,a.to⟩
def ofSt(s:St):RSt:=⟨s.final,s.out,s.arcs.map zAs⟩
theorem zU9{a c:Arc}(h:zAs a=zAs c):a=c:=by
 cases a;cases c;simp only[zAs,RArc.mk.injEq]at h;obtain⟨h1,h2,h3⟩:=h;simp only[Arc.mk.injEq];exact⟨h1,h2,by omega⟩
theorem zJm:∀{l m:List Arc},l.map zAs=m.map zAs→l=m
 |[],[],_=>rfl
 |[],_::_,h=>by simp at h
 |_::_,[],h=>by simp at h
 |a::l,c::m,h=>by
  simp only[List.map_cons,List.cons.injEq]at h;rw[zU9 h.1,zJm h.2]
theorem ofSt_inj{s t:St}(h:ofSt s=ofSt t):s=t:=by
 cases s;cases t;simp only[ofSt,RSt.mk.injEq]at h;obtain⟨h1,h2,h3⟩:=h;rw[h1,h2,zJm h3]
theorem zQg {f : Nat} (ih : ∀ (D : List (List En)) (b : List St) (S : List En), Inv D b → Fm.Good f S →
      ((refF f D b S).2.1=b∧(refF f D b S).2.2<b.length)∨((refF f D b S).2.2+1=(refF f D b S).2.1.length∧b.length≤(refF f D b S).2.2∧b<+:(refF f D b S).2.1∧∀M,(refF f D b S).2.1<+:M→∀F,f≤F→vis8 (M.map ofSt) F (refF f D b S).2.2 b.length=some (refF f D b S).2.1.length)):
 ∀(gs:List (Int×List En)) (D:List (List En)) (b:List St),Inv D b→(∀p∈gs,Fm.Good f p.2)→b<+:(refA (refF f) D b gs).2.1∧∀M,(refA (refF f) D b gs).2.1<+:M→∀F,f≤F→zDk (vis8 (M.map ofSt) F) ((refA (refF f) D b gs).2.2.map zAs) b.length=some (refA (refF f) D b gs).2.1.length
 |[],D,b,_,_=>⟨List.prefix_refl _,fun M _ F _=>rfl⟩
 |(c,G)::r,D,b,hI,hG=>by
  have hGG:=hG (c,G) (by simp);obtain⟨e1,e2⟩:=zUs f D b G hI hGG;have e2':Inv (refF f D b G).1 (refF f D b G).2.1:=by rw[e1];exact e2
  obtain⟨p1,p2⟩:=zQg ih r (refF f D b G).1 (refF f D b G).2.1 e2' (fun p hp=>hG p (by simp[hp]));rw[refA];simp only[List.map_cons];rcases ih D b G hI hGG with⟨h1,h2⟩|⟨h1,h2,h3,h4⟩
  · rw[h1]at p1 p2 ⊢
    refine⟨p1,fun M hM F hF=>?_⟩;rw[zDk,if_neg (by simp only[zAs];omega)];exact p2 M hM F hF
  · refine⟨h3.trans p1,fun M hM F hF=>?_⟩
    rw[zDk,if_pos (by simp only[zAs];omega)];have:=h4 M (p1.trans hM) F hF;simp only[zAs,Int.toNat_natCast];rw[this];exact p2 M hM F hF
theorem zQf : ∀ (f : Nat) (D : List (List En)) (b : List St) (S : List En), Inv D b → Fm.Good f S →
      ((refF f D b S).2.1=b∧(refF f D b S).2.2<b.length)∨((refF f D b S).2.2+1=(refF f D b S).2.1.length∧b.length≤(refF f D b S).2.2∧b<+:(refF f D b S).2.1∧∀M,(refF f D b S).2.1<+:M→∀F,f≤F→vis8 (M.map ofSt) F (refF f D b S).2.2 b.length=some (refF f D b S).2.1.length)
 |0,_,_,S,_,h=>by
  obtain⟨h0,_,h2⟩:=h;cases S with
  |nil=>exact absurd rfl h0
  |cons e r=>exact absurd (h2 e (by simp)) (by omega)
 |f+1,D,b,S,hI,hG=>by
  rw[refF];by_cases hm:zAr S∈D
  · rw[if_pos hm]
    refine .inl ⟨rfl,?_⟩;have:=List.idxOf_lt_length_of_mem hm;simp only;rw[←hI.len];exact this
  · rw[if_neg hm]
    have hGl:Fm.Good (f+1) (zAr S):=⟨zK9.2 hG.1,by unfold Rise zAr zAm;rw[List.pairwise_map];exact hG.2.1,fun e he=>by
     obtain⟨x,hx,rfl⟩:=List.mem_map.1 he;exact hG.2.2 x hx⟩
    obtain⟨p1,p2⟩:=zQg (zQf f) (grp (zAk (zAr S))) D b hI (zDr hGl);generalize refA (refF f) D b (grp (zAk (zAr S)))=q at p1 p2;obtain⟨D1,b1,acc⟩:=q;simp only at p1 p2 ⊢;refine .inr ⟨by simp,p1.length_le,p1.trans (List.prefix_append _ _),fun M hM F hF=>?_⟩;obtain⟨F',rfl⟩:∃F',F=F'+1:=⟨F-1,by omega⟩;have hn:(M.map ofSt).getD b1.length ⟨false,0,[]⟩=ofSt ⟨zDg S,zC1 (zAr S),acc⟩:=by
     obtain⟨t,rfl⟩:=hM;simp[List.getD_eq_getElem?_getD]
    rw[vis8,hn];have:=p2 M ((List.prefix_append _ _).trans hM) F' (by omega);show Option.bind (zDk (vis8 (M.map ofSt) F') (acc.map zAs) b.length) _=_;rw[this];simp
def mxL:List En→Int
 |[]=>0
 |e::r=>max (e.1.length:Int) (mxL r)
def mxW:List En→Int
 |[]=>0
 |e::r=>max e.2 (mxW r)
theorem mxL_nn:∀l:List En,0≤mxL l
 |[]=>Int.le_refl _
 |e::r=>by rw[mxL];have:=mxL_nn r;omega
theorem mxW_nn:∀l:List En,0≤mxW l
 |[]=>Int.le_refl _
 |e::r=>by rw[mxW];have:=mxW_nn r;omega
theorem zJp:∀a b:List En,mxL (a++b)=max (mxL a) (mxL b)
 |[],b=>by have:=mxL_nn b;simp only[List.nil_append,mxL];omega
 |e::r,b=>by rw[List.cons_append,mxL,mxL,zJp r b];omega
theorem zJo:∀a b:List En,mxW (a++b)=max (mxW a) (mxW b)
 |[],b=>by have:=mxW_nn b;simp only[List.nil_append,mxW];omega
 |e::r,b=>by rw[List.cons_append,mxW,mxW,zJo r b];omega
theorem mxL_le:∀(l:List En) (n:Int),0≤n→(∀e∈l,(e.1.length:Int)≤n)→mxL l≤n
 |[],n,h,_=>h
 |e::r,n,h,hl=>by
  rw[mxL];have:=mxL_le r n h fun x hx=>hl x (by simp[hx])
  have:=hl e (by simp);omega
theorem mxW_le:∀(l:List En) (n:Int),0≤n→(∀e∈l,e.2≤n)→mxW l≤n
 |[],n,h,_=>h
 |e::r,n,h,hl=>by
  rw[mxW];have:=mxW_le r n h fun x hx=>hl x (by simp[hx])
  have:=hl e (by simp);omega
theorem zVf(c n:Int):∀l:List En,l≠[]→mxL ((zAm n l).map (pre c))=mxL l+1
 |[e],_=>by
  simp only[zAm,pre,List.map_cons,List.map_nil,mxL,List.length_cons];omega
 |e::x::r,_=>by
  have ih:=zVf c n (x::r) (by simp);have e1:(zAm n (e::x::r)).map (pre c)=(c::e.1,e.2+n)::(zAm n (x::r)).map (pre c):=rfl;have e2:mxL (e::x::r)=max (e.1.length:Int) (mxL (x::r)):=rfl;rw[e1,mxL,ih,e2];simp only[List.length_cons];omega
theorem zVe(c n:Int)(hn:0≤n):∀l:List En,l≠[]→(∀e∈l,0≤e.2)→mxW ((zAm n l).map (pre c))=n+mxW l
 |[e],_,h=>by
  have:=h e (by simp);simp only[zAm,pre,List.map_cons,List.map_nil,mxW];omega
 |e::x::r,_,h=>by
  have ih:=zVe c n hn (x::r) (by simp) (fun y hy=>h y (by simp only[List.mem_cons]at hy ⊢;exact .inr hy));have e1:(zAm n (e::x::r)).map (pre c)=(c::e.1,e.2+n)::(zAm n (x::r)).map (pre c):=rfl;have e2:mxW (e::x::r)=max e.2 (mxW (x::r)):=rfl;rw[e1,mxW,ih,e2];simp only;omega
def zE0(R:List En):Reach:=⟨mxL R,R.length,mxW R⟩
theorem zRo(D:List (List En))(known:List Reach)(hk:∀(j:Nat) (R:List En),D[j]?=some R→known[j]?=some (zE0 R))(hD:∀R∈D,R≠[]∧∀e∈R,0≤e.2):
 ∀(l:List Arc) (T:List En),(∀a∈l,a.to<D.length∧0≤a.out∧a.out≤1048576)→(l.map zAs).foldl (zE3 known) (zE0 T)=zE0 (T++flat (outs D l))
 |[],T,_=>by simp[outs,flat]
 |a::l,T,h=>by
  obtain⟨h1,h2,h3⟩:=h a (by simp);have hR:D[a.to]?=some D[a.to]:=List.getElem?_eq_getElem h1;obtain⟨g1,g2⟩:=hD _ (List.getElem_mem h1);have hkn:=hk _ _ hR;have hstep:zE3 known (zE0 T) (zAs a)=zE0 (T++(zAm a.out D[a.to]).map (pre a.label)):=by
   unfold zE3 zE0;simp only[zAs,Int.toNat_natCast,List.getD_eq_getElem?_getD,hkn,Option.getD_some,zE0];rw[zJp,zJo,zVf _ _ _ g1,zVe _ _ h2 _ g1 g2];simp only[Reach.mk.injEq,List.length_append,List.length_map];refine⟨trivial,?_,?_⟩
   · simp[zAm]
   · congr 1
     omega
  rw[List.map_cons,List.foldl_cons,hstep,zRo D known hk hD l _ (fun x hx=>h x (by simp[hx]))];congr 1;simp only[outs,flat,List.map_cons,List.flatMap_cons,hR,Option.getD_some,List.append_assoc]
theorem beh_exp{D:List (List En)}{known:List Reach}(hk:∀(j:Nat) (R:List En),D[j]?=some R→known[j]?=some (zE0 R))(hD:∀R∈D,R≠[]∧∀e∈R,0≤e.2){s:St}(h:∀a∈s.arcs,a.to<D.length∧0≤a.out∧a.out≤1048576)(ho:s.final=true→0≤s.out):behR (ofSt s) known=zE0 (exp D s):=by
 unfold behR exp;have e1:(if (ofSt s).final then (⟨0,1,(ofSt s).out⟩:Reach)else ⟨0,0,0⟩)=zE0 (fins s):=by
  show(if s.final then (⟨0,1,s.out⟩:Reach)else ⟨0,0,0⟩)=_;unfold fins zE0;cases hf:s.final with
  |false=>rfl
  |true=>
   have:=ho hf;simp only[if_true,mxL,mxW,List.length_nil,List.length_singleton,Reach.mk.injEq];omega
 rw[e1];exact zRo D known hk hD s.arcs (fins s) h
theorem exp_take{D:List (List En)}{s:St}{i:Nat}(h:∀a∈s.arcs,a.to<i)(hi:i≤D.length):exp D s=exp (D.take i) s:=
 zIg (List.take_prefix i D) (fun a ha=>by rw[List.length_take];have:=h a ha;omega)
structure Rests(base:Int)(D:List (List En)):Prop where
 ne:∀R∈D,R≠[]
 nn:∀R∈D,∀e∈R,0≤e.2
 ln:∀R∈D,∀e∈R,e.1.length≤24
 few:∀R∈D,R.length≤4096
 wt:∀R∈D,∀e∈R,e.2≤1048576-base
 rn:∀R∈D,∀e∈R,∀c∈e.1,zC5 c=true
 lo:1≤base
 hi:base≤1048576
theorem arc_in{D:List (List En)}{s:St}{a:Arc}(ha:a∈s.arcs)(ht:a.to<D.length){e:En}(he:e∈D[a.to]):(a.label::e.1,e.2+a.out)∈exp D s:=by
 unfold exp;refine List.mem_append.2 (.inr ?_);unfold flat outs;refine List.mem_flatMap.2 ⟨(a.label,zAm a.out (D[a.to]?.getD [])),List.mem_map.2 ⟨a,ha,rfl⟩,?_⟩;rw[List.getElem?_eq_getElem ht];exact List.mem_map.2 ⟨(e.1,e.2+a.out),List.mem_map.2 ⟨e,he,rfl⟩,rfl⟩
theorem zDj{base:Int}{D:List (List En)}{b:List St}(hI:Inv D b)(hR:Rests base D){i:Nat}{s:St}(hi:b[i]?=some s):∀a∈s.arcs,a.to<i∧0≤a.out∧a.out≤1048576∧zC5 a.label=true:=fun a ha=>by
 obtain⟨e1,e2,e3⟩:=hI.row i s hi;have ht:=e3.to a ha;have hne:=hR.ne _ (List.getElem_mem ht);obtain⟨e,he⟩:=List.exists_mem_of_ne_nil _ hne;have hin:=arc_in ha ht he;have hD:=List.mem_of_getElem? e1;have h1:=hR.wt _ hD _ hin;have h2:=hR.rn _ hD _ hin a.label (by simp);have h3:=hR.nn _ (List.getElem_mem ht) e he;have h4:=hR.lo;obtain⟨_,h5,_⟩:=zCj hI hi;have:=h5 a ha;simp only at h1;exact⟨e2 a ha,by omega,by omega,h2⟩
theorem zXz{base:Int}{D:List (List En)}{b:List St}(hI:Inv D b)(hR:Rests base D):∀(n:Nat),n≤b.length→bndB base ((D.take (b.length-n)).map zE0) ((b.drop (b.length-n)).map ofSt)=true
 |0,_=>by simp[bndB]
 |n+1,hn=>by
  have ih:=zXz hI hR n (by omega);obtain⟨i,hi⟩:∃i,i=b.length-(n+1):=⟨_,rfl⟩;have hi1:b.length-n=i+1:=by omega
  rw[hi1]at ih;rw[←hi];have hil:i<b.length:=by omega
  obtain⟨s,hs⟩:∃s,b[i]?=some s:=⟨b[i],List.getElem?_eq_getElem hil⟩;obtain⟨e1,e2,e3⟩:=hI.row i s hs;have hdr:b.drop i=s::b.drop (i+1):=by rw[List.drop_eq_getElem_cons hil];congr 1;rw[List.getElem?_eq_getElem hil]at hs;exact Option.some.inj hs
  have hiD:i≤D.length:=by have:=hI.len;omega
  obtain⟨l1,l2,l3⟩:=zCj hI hs;have hbe:behR (ofSt s) ((D.take i).map zE0)=zE0 (exp D s):=by
   rw[exp_take e2 hiD];refine beh_exp (fun j R hj=>by rw[List.getElem?_map,hj];rfl) (fun R hR'=>?_) (fun a ha=>?_) l1
   · have:=List.mem_of_mem_take hR'
     exact⟨hR.ne R this,hR.nn R this⟩
   · obtain⟨a1,a2,a3,_⟩:=zDj hI hR hs a ha
     exact⟨by rw[List.length_take];omega,a2,a3⟩
  have hD:=List.mem_of_getElem? e1;have htk:D.take (i+1)=D.take i++[exp D s]:=by rw[List.take_add_one,e1];rfl
  rw[hdr,List.map_cons,bndB,hbe];have hok:okR base (zE0 (exp D s))=true:=by
   unfold okR zE0;have h1:=mxL_le (exp D s) 24 (by omega) (fun e he=>by have:=hR.ln _ hD e he;omega);have h2:=hR.few _ hD;have h3:=mxW_le (exp D s) (1048576-base) (by have:=hR.hi;omega) (fun e he=>hR.wt _ hD e he);simp only[decide_eq_true_eq];omega
  rw[hok,Bool.true_and];rw[htk,List.map_append]at ih;exact ih
theorem zVk:∀(l:List RArc) (m:Int),minF m l≤m∧∀a∈l,minF m l≤a.out
 |[],m=>⟨Int.le_refl _,fun a ha=>by cases ha⟩
 |a::r,m=>by
  obtain⟨h1,h2⟩:=zVk r (min m a.out);rw[minF];refine⟨by omega,fun x hx=>?_⟩;rcases List.mem_cons.1 hx with rfl|hx
  · omega
  · exact h2 x hx
theorem zVj:∀(l:List RArc) (m:Int),0≤m→(∀a∈l,0≤a.out)→0≤minF m l
 |[],m,h,_=>h
 |a::r,m,h,hl=>by
  rw[minF];have:=hl a (by simp);exact zVj r _ (by omega) fun x hx=>hl x (by simp[hx])
theorem ord_of:∀(l:List RArc) (n:Int) (p:Option Int),l.Pairwise (fun a c=>a.label<c.label)→(∀a∈l,zC5 a.label=true∧0≤a.to∧a.to<n)→(∀q,p=some q→∀a∈l,q<a.label)→ordB n p l=true
 |[],_,_,_,_,_=>rfl
 |a::r,n,p,hp,ha,hq=>by
  obtain⟨h1,h2⟩:=List.pairwise_cons.1 hp;obtain⟨g1,g2,g3⟩:=ha a (by simp);have hany:(p.any fun q=>decide (a.label≤q))=false:=by
   cases p with
   |none=>rfl
   |some q=>
    have:=hq q rfl a (by simp);simp only[Option.any_some,decide_eq_false_iff_not];omega
  rw[ordB,hany,g1,decide_eq_true ⟨g2,g3⟩];simp only[Bool.not_false,Bool.true_and];exact ord_of r n _ h2 (fun x hx=>ha x (by simp[hx])) (fun q hq' x hx=>by cases hq';exact h1 x hx)
theorem zWu:∀(l:List RSt) (i:Nat),(∀(j:Nat) (s:RSt),l[j]?=some s→zI4 s (i+j)=true)→zA5 i l=true
 |[],_,_=>rfl
 |s::r,i,h=>by
  have h0:=h 0 s rfl;rw[Nat.add_zero]at h0;rw[zA5,h0,Bool.true_and];exact zWu r (i+1) fun j t hj=>by have:=h (j+1) t (by simpa using hj);rwa [show i+(j+1)=i+1+j by omega]at this
theorem form_inv{base:Int}{D:List (List En)}{b:List St}(hI:Inv D b)(hR:Rests base D):zA5 0 (b.map ofSt)=true:=by
 refine zWu _ _ fun j t hj=>?_
 rw[List.getElem?_map]at hj;obtain⟨s,hs,rfl⟩:=Option.map_eq_some_iff.1 hj;rw[Nat.zero_add];obtain⟨e1,e2,e3⟩:=hI.row j s hs;obtain⟨l1,l2,l3⟩:=zCj hI hs;have hf:=zDj hI hR hs;have h1:((ofSt s).final||decide ((ofSt s).out=0))=true:=by
  show(s.final||decide (s.out=0))=true;cases hfi:s.final with
  |true=>rfl
  |false=>simp[e3.fin hfi]
 have h2:zFu (ofSt s)=0:=by
  show minF (if s.final then s.out else 9223372036854775807) (s.arcs.map zAs)=0;have hm:∀a∈s.arcs.map zAs,0≤a.out:=fun a ha=>by
   obtain⟨x,hx,rfl⟩:=List.mem_map.1 ha;exact(hf x hx).2.1
  have hm0:0≤(if s.final then s.out else 9223372036854775807:Int):=by
   cases hfi:s.final with
   |true=>rw[if_pos rfl];exact l1 hfi
   |false=>rw[if_neg (by decide)];decide
  obtain⟨q1,q2⟩:=zVk (s.arcs.map zAs) (if s.final then s.out else 9223372036854775807);have q3:=zVj (s.arcs.map zAs) (if s.final then s.out else 9223372036854775807) hm0 hm;rcases l3 with⟨f1,f2⟩|⟨a,ha,f2⟩
  · rw[f1,if_pos rfl,f2]at q1 q3 ⊢
    omega
  · have:=q2 (zAs a) (List.mem_map.2 ⟨a,ha,rfl⟩)
    simp only[zAs]at this;omega
 have h3:ordB j none (ofSt s).arcs=true:=by
  simp only[ofSt];refine ord_of _ _ _ ?_ (fun a ha=>?_) (fun q hq=>by cases hq)
  · rw[List.pairwise_map]
    exact e3.lab
  · obtain⟨x,hx,rfl⟩:=List.mem_map.1 ha
    obtain⟨a1,a2,a3,a4⟩:=hf x hx;simp only[zAs];exact⟨a4,by omega,by omega⟩
 unfold zI4;rw[h1,h2,h3];rfl
end Pk
namespace Pk
open Go.Proofs.YtobjpljdgieklaaGreatDoor.Nums Go.Proofs.YtobjpljdgieklaaGreatDoor.Fm Go.Proofs.YtobjpljdgieklaaGreatDoor
theorem zMa{S R:List En}(h:Sub S R){P:Int→Prop}:(∀e∈S,∀c∈e.1,P c)→∀e∈R,∀c∈e.1,P c:=by
 induction h with
 |here S=>
  intro hS e he c hc;obtain⟨x,hx,rfl⟩:=List.mem_map.1 he;exact hS x hx c hc
 |step hp _ ih=>
  intro hS;refine ih fun e he c hc=>?_
  obtain⟨x,hx,rfl⟩:=zWq _ _ (Nat.le_refl _) _ hp e he;exact hS x (zFy hx) c (List.mem_of_mem_tail hc)
theorem zNa{l:List Pr}(h:zAf l=0):∀e∈ents l,∀c∈e.1,zC5 c=true:=by
 unfold zAf at h
 split at h
 · cases h
 · have ha:=zF1 l none h
   intro e he c hc;obtain⟨x,hx,rfl⟩:=List.mem_map.1 he;have hw:=(ha x hx).1;obtain⟨xs,h1,_,_,_,h4⟩:=zA3 hw;unfold zAp at hw;rw[h1]at hw;simp only[Bool.and_eq_true]at hw;rw[zC2,h1]at hc;simp only[Option.getD_some]at hc;unfold zC5;rw[List.all_eq_true.1 h4 c hc,List.all_eq_true.1 hw.2 c hc];rfl
theorem zJ2{l:List Pr}(h:zAf l=0)(hl:l≠[]):∃D,Fm.Inv D (stF 25 [] (ents l)).1∧Rests (least (ents l)) D:=by
 have hG:=zEf h hl;have hD:=zC3 h;obtain⟨D,M⟩:=zCr 25 [] [] (ents l) Inv.nil hG;have hI:=M.inv;have hne:=zO1 hl;obtain⟨z0,hz0,hz0w⟩:=zB8 hne;have hw0:=hD.en.wt z0 hz0;rw[hz0w]at hw0;have hsub:∀R∈D,Sub (ents l) R:=fun R hR=>(M.sub R hR).resolve_left (fun h=>by cases h)
 have hR:Rests (least (ents l)) D:=by
  have hb:∀R∈D,∃B:List En,R=zAr B∧B.length≤(ents l).length∧∀e∈B,∃x∈ents l,e.2=x.2∧e.1.length≤x.1.length:=fun R hR=>by
   obtain⟨xs,n,hx,k,hk,rfl⟩:=zP4 (hsub R hR) hD.rise hne;exact⟨_,rfl,zG0 _ _,fun e he=>zGz _ _ _ he⟩
  refine⟨fun R hR=>(hI.lv R hR).1,fun R hR e he=>?_,fun R hR e he=>?_,fun R hR=>?_,fun R hR e he=>?_,fun R hR=>zMa (hsub R hR) (zNa h),hw0.1,hw0.2⟩
  · have:=zCo he
    rw[(hI.lv R hR).2]at this;exact this
  · obtain⟨B,rfl,_,h3⟩:=hb R hR
    obtain⟨x,hx,rfl⟩:=List.mem_map.1 he;obtain⟨y,hy,_,h5⟩:=h3 x hx;have:=hD.en.ln y hy;simp only;omega
  · obtain⟨B,rfl,h2,_⟩:=hb R hR
    (have h3:(zAr B).length=B.length:=by simp[zAr,zAm]);(have h4:(ents l).length=l.length:=by simp[ents]);have:=hD.len;omega
  · obtain⟨B,rfl,_,h3⟩:=hb R hR
    obtain⟨x,hx,rfl⟩:=List.mem_map.1 he;obtain⟨y,hy,h4,_⟩:=h3 x hx;(have hB:B≠[]:=fun e=>by rw[e]at hx;cases hx);obtain⟨u,hu,hu2⟩:=zB8 hB;obtain⟨v,hv,h5,_⟩:=h3 u hu;have h6:=zCo hv;have h7:=hD.en.wt y hy;simp only;omega
 exact⟨D,hI,hR⟩
theorem zPk{l:List Pr}(h:zAf l=0):∀(i:Nat) (s:St),(zAl l).2[i]?=some s→(0≤s.out∧s.out≤1048576)∧∀a∈s.arcs,(0≤a.label∧a.label<1114112)∧(0≤a.out∧a.out≤1048576)∧a.to<i:=by
 intro i s hi;by_cases hl:l=[]
 · subst hl
   simp[zAl]at hi
 have hM:zAl l=(least (ents l),(stF 25 [] (ents l)).1):=by rw[zAl,if_pos ⟨h,hl⟩]
 rw[hM]at hi;obtain⟨D,hI,hR⟩:=zJ2 h hl;simp only at hi;refine⟨?_,fun a ha=>?_⟩
 · obtain⟨e1,_,e3⟩:=hI.row i s hi
   obtain⟨l1,_,_⟩:=zCj hI hi;cases hf:s.final with
   |false=>rw[e3.fin hf];omega
   |true=>
    (have hin:(([]:List Int),s.out)∈exp D s:=by unfold exp fins;rw[hf];simp);have:=hR.wt _ (List.mem_of_getElem? e1) _ hin;have:=hR.lo;have:=l1 hf;simp only at *;omega
 · obtain⟨a1,a2,a3,a4⟩:=zDj hI hR hi a ha
   unfold zC5 at a4;simp only[Bool.and_eq_true]at a4;have:=of_decide_eq_true a4.1;exact⟨⟨this.1,this.2.1⟩,⟨a2,a3⟩,a1⟩
theorem zQu{l:List Pr}:(zAl l).2.length≤102400:=by
 rw[zAl]
 split
 · rename_i h
   have hg:=zEf h.1 h.2;have h1:=(zHw 25 [] (ents l) (zGn 25 _ hg.1 hg.2.1 hg.2.2)).2.1;have h2:=zXx (zC3 h.1).en.ln;rw[zCd]at h2;have h3:=(zC3 h.1).len;simp only[List.length_nil]at h1;show(stF 25 [] (ents l)).1.length≤102400;omega
 · simp
theorem zIp{l:List Pr}(h:zAf l=0):rightB (zAl l).1 ((zAl l).2.map ofSt)=true:=by
 by_cases hl:l=[]
 · subst hl
   rfl
 have hG:=zEf h hl;have hD:=zC3 h;have hM:zAl l=(least (ents l),(stF 25 [] (ents l)).1):=by rw[zAl,if_pos ⟨h,hl⟩]
 obtain⟨D,M⟩:=zCr 25 [] [] (ents l) Inv.nil hG;obtain⟨e1,e2⟩:=zUs 25 [] [] (ents l) Inv.nil hG;rw[hM];simp only;have hI:=M.inv;have hne:=zO1 hl;obtain⟨z0,hz0,hz0w⟩:=zB8 hne;have hw0:=hD.en.wt z0 hz0;rw[hz0w]at hw0;have hsub:∀R∈D,Sub (ents l) R:=fun R hR=>(M.sub R hR).resolve_left (fun h=>by cases h)
 have hR:Rests (least (ents l)) D:=by
  have hb:∀R∈D,∃B:List En,R=zAr B∧B.length≤(ents l).length∧∀e∈B,∃x∈ents l,e.2=x.2∧e.1.length≤x.1.length:=fun R hR=>by
   obtain⟨xs,n,hx,k,hk,rfl⟩:=zP4 (hsub R hR) hD.rise hne;exact⟨_,rfl,zG0 _ _,fun e he=>zGz _ _ _ he⟩
  refine⟨fun R hR=>(hI.lv R hR).1,fun R hR e he=>?_,fun R hR e he=>?_,fun R hR=>?_,fun R hR e he=>?_,fun R hR=>zMa (hsub R hR) (zNa h),hw0.1,hw0.2⟩
  · have:=zCo he
    rw[(hI.lv R hR).2]at this;exact this
  · obtain⟨B,rfl,_,h3⟩:=hb R hR
    obtain⟨x,hx,rfl⟩:=List.mem_map.1 he;obtain⟨y,hy,_,h5⟩:=h3 x hx;have:=hD.en.ln y hy;simp only;omega
  · obtain⟨B,rfl,h2,_⟩:=hb R hR
    (have h3:(zAr B).length=B.length:=by simp[zAr,zAm]);(have h4:(ents l).length=l.length:=by simp[ents]);have:=hD.len;omega
  · obtain⟨B,rfl,_,h3⟩:=hb R hR
    obtain⟨x,hx,rfl⟩:=List.mem_map.1 he;obtain⟨y,hy,h4,_⟩:=h3 x hx;(have hB:B≠[]:=fun e=>by rw[e]at hx;cases hx);obtain⟨u,hu,hu2⟩:=zB8 hB;obtain⟨v,hv,h5,_⟩:=h3 u hu;have h6:=zCo hv;have h7:=hD.en.wt y hy;simp only;omega
 have hrl:(refF 25 [] [] (ents l)).2=stF 25 [] (ents l):=e1;have hv:=zQf 25 [] [] (ents l) Inv.nil hG;rw[hrl]at hv;obtain⟨v1,v2,_,v4⟩:=hv.resolve_left (fun h=>by simp at h);generalize stF 25 [] (ents l)=r at *;obtain⟨b,nr⟩:=r;simp only at *;have hb0:b≠[]:=fun e=>by rw[e]at v1;simp at v1
 have hnum:numB (b.map ofSt)=true:=by
  unfold numB;have hnr:(b.map ofSt).length-1=nr:=by rw[List.length_map];omega
  have:=v4 b (List.prefix_refl _) ((b.map ofSt).length+25) (by omega);simp only[List.length_nil]at this;rw[hnr,this];rfl
 have hroot:((b.map ofSt).getD ((b.map ofSt).length-1) ⟨false,0,[]⟩).final=false:=by
  have hnr:(b.map ofSt).length-1=nr:=by rw[List.length_map];omega
  rw[hnr];obtain⟨s,hs⟩:∃s,b[nr]?=some s:=⟨b[nr]'(by omega),List.getElem?_eq_getElem _⟩;have hst:(b.map ofSt).getD nr ⟨false,0,[]⟩=ofSt s:=by rw[List.getD_eq_getElem?_getD,List.getElem?_map,hs];rfl
  rw[hst];obtain⟨q1,q2,q3⟩:=hI.row nr s hs;have hnum:=M.num;simp only at hnum;rw[hnum]at q1;obtain⟨g1,_⟩:=zLg hI.lv q3;rw[←Option.some.inj q1,zAr,zIe]at g1;simp only[ofSt];rw[←g1];obtain⟨e,r,he⟩:=List.exists_cons_of_ne_nil hne;rw[he];have:=hD.pos e (by rw[he];simp);obtain⟨x,n⟩:=e;cases x with
  |nil=>exact absurd rfl this
  |cons c t=>rfl
 have hnd:(b.map ofSt).Nodup:=by
  unfold List.Nodup;rw[List.pairwise_map,List.pairwise_iff_getElem];intro i j hi hj hij e;have h1:=(hI.row i _ (List.getElem?_eq_getElem hi)).1;have h2:=(hI.row j _ (List.getElem?_eq_getElem hj)).1;rw[ofSt_inj e]at h1;have hlt1:=(List.getElem?_eq_some_iff.1 h1).1;have hlt2:=(List.getElem?_eq_some_iff.1 h2).1;have:=zGp hI.nd hlt1 hlt2 (by rw[h1,h2]);omega
 have hbnd:bndB (least (ents l)) [] (b.map ofSt)=true:=by
  have:=zXz hI hR b.length (Nat.le_refl _);simpa using this
 have hform:=form_inv hI hR;have hmn:b.map ofSt≠[]:=by simpa using hb0
 unfold rightB;rw[if_neg hmn,hroot,hform,hbnd,hnum,decide_eq_true hnd,decide_eq_true hw0];rfl
end Pk
section
open Go.RowKit Nums Ed
def IBlk(w:World)(g:Nat)(cs:List Int):Prop:=w.heap[g]?=some (.cells (cs.map (Value.int .i64)).toArray 3 (0,0))
theorem IBlk.lt{w:World}{g:Nat}{cs:List Int}(h:IBlk w g cs):g<w.heap.size:=(Array.getElem?_eq_some_iff.1 h).1
theorem IBlk.cell{w:World}{g k:Nat}{cs:List Int}{x:Int}(h:IBlk w g cs)(hk:cs[k]?=some x):w.cell? ⟨g,k,none⟩=some (.int .i64 x):=by
 unfold IBlk at h;simp only[World.cell?,h];simp[hk]
theorem IBlk.frozen{w:World}{g:Nat}{cs:List Int}(h:IBlk w g cs)(k:Nat):w.frozen? ⟨g,k,none⟩=false:=by
 unfold IBlk at h;simp only[World.frozen?,h];simp
theorem IBlk.set{w:World}{g:Nat}{cs:List Int}(h:IBlk w g cs)(k:Nat)(x:Int):IBlk (w.setCell ⟨g,k,none⟩ (.int .i64 x)) g (cs.set k x):=by
 unfold IBlk at h ⊢;simp only[World.setCell,Array.getElem?_modify,h];simp[List.map_set]
theorem IBlk.same{w w':World}{g:Nat}{cs:List Int}(h:IBlk w g cs)(e:w'.heap[g]?=w.heap[g]?):IBlk w' g cs:=by
 unfold IBlk at h ⊢;rw[e];exact h
structure But(r:Nat)(w w':World):Prop where
 os:w'.os=w.os
 tape:w'.tape=w.tape
 output:w'.output=w.output
 size:w.heap.size≤w'.heap.size
 block:∀k,k<w.heap.size→k≠r→w'.heap[k]?=w.heap[k]?
theorem But.refl(r:Nat)(w:World):But r w w:=⟨rfl,rfl,rfl,Nat.le_refl _,fun _ _ _=>rfl⟩
theorem But.trans{r:Nat}{a b c:World}(h:But r a b)(k:But r b c):But r a c:=
 ⟨k.os.trans h.os,k.tape.trans h.tape,k.output.trans h.output,Nat.le_trans h.size k.size,fun i hi hr=>(k.block i (Nat.lt_of_lt_of_le hi h.size) hr).trans (h.block i hi hr)⟩
theorem But.of_below{r:Nat}{w w':World}(h:Below w.heap.size w w'):But r w w':=⟨h.os,h.tape,h.output,h.size,fun k hk _=>h.block k hk⟩
theorem But.below{r B:Nat}{w w':World}(h:But r w w')(hr:B≤r)(hB:B≤w.heap.size):Below B w w':=
 ⟨h.os,h.tape,h.output,h.size,fun k hk=>h.block k (by omega) (by omega)⟩
theorem But.setCell{r:Nat}{a w:World}(h:But r a w)(o:Nat)(u:Value):But r a (w.setCell ⟨r,o,none⟩ u):=
 h.trans ⟨rfl,rfl,rfl,by simp[World.setCell],fun k _ hk=>Below.heap_setCell _ _ _ _ hk⟩
theorem IBlk.alloc{w:World}{g:Nat}{cs:List Int}(h:IBlk w g cs)(o:Obj):IBlk (w.alloc o) g cs:=h.same (Below.heap_alloc _ _ _ h.lt)
theorem But.alloc{r:Nat}{a w:World}(h:But r a w)(o:Obj):But r a (w.alloc o):=h.trans (But.of_below ((Below.refl _ w).alloc (Nat.le_refl _) o))
theorem zWi:(Tryz.prog.info? 3).map (fun i=>(i.zero,i.size,i.bytes))=some (some (.int .i64 0),1,8):=by kernel_rfl
theorem zIq{w:World}{g off n cap nb c:Nat}{cs:List Int}{x:Int}(h:IBlk w g cs)(hx:w.cell? ⟨nb,0,none⟩=some (.int .i64 x))(hn:n<cap)(ho:off+n<cs.length)(ty:TypeId):
 (Builtin.append_ #[118,118] ty #[.slice (some ⟨g,off,none⟩) n cap,.slice (some ⟨nb,0,none⟩) 1 c]).run Tryz.prog w = .ok (.slice (some ⟨g,off,none⟩) (n+1) cap) (w.setCell ⟨g,off+n,none⟩ (.int .i64 x)):=by
 obtain⟨i0,hi,hz0,hz1,hz2⟩:=info_parts zWi;have hadd:∀j,(⟨nb,0,none⟩:Addr).add j=⟨nb,0+j,none⟩:=fun j=>by unfold Addr.add;split<;>simp_all
 have hc:w.cell? ⟨g,off+n,none⟩=some (.int .i64 cs[off+n]):=h.cell (List.getElem?_eq_getElem ho);have hr:=run_append_room_cells (P:=Tryz.prog) w 118 ty 3 i0 Tryz.underlying118 hi g off n cap ⟨nb,0,none⟩ 1 c [.int .i64 x] (by rw[hz1];rfl) (fun j u hj=>by
  match j,hj with
  |0,hj=>simp at hj;subst hj;rw[hadd];exact hx) (by simp[Value.oneCell']) (by omega) (fun j hj=>by
   rw[hz1];simp at hj;subst hj;simp[hc]) (fun j hj=>h.frozen _)
 rw[hr,hz1];simp[World.setCells]
theorem zRp{W:World}{ops:Array Oper}{rest:List Oper}{o:Oper}{a:Act}{Q:Exit→Act→World→Prop}(hgd:o.guard=none)(s y:Operand)(T2:TypeId)
 (ho:o.op = .call { callee := .builtin .append,args:=#[s,y],argTypes:=#[118,118] }) (g off n cap c nb:Nat) (cs:List Int) (x:Int) (hs:a.eval s = .slice (some ⟨g,off,none⟩) n cap) (hy:a.eval y = .slice (some ⟨nb,0,none⟩) 1 c) (hnb:nb=W.heap.size) (hB:IBlk W g cs) (hn:n<cap) (hl:off+n<cs.length)
 (h:∀w',IBlk w' g (cs.set (off+n) x)→But g W w'→wpList Tryz.prog ops Q rest (a.put o.dst (.slice (some ⟨g,off,none⟩) (n+1) cap)) w'):wpList Tryz.prog ops Q (o::rest) a (W.alloc (.cells #[.int .i64 x] T2)):=by
 subst hnb;have h1:=zIq (nb:=W.heap.size) (c:=c) (x:=x) (hB.alloc (.cells #[.int .i64 x] T2)) (by simp) hn hl o.type;refine wpList_plain hgd fun _ hK=>?_
 unfold Oper.wp execOp;simp only[ho,resolve,invoke,builtin,Sem.run_bind,Sem.run_pure,Result.andThen_ok,List.map_toArray,List.map_cons,List.map_nil,hs,hy,h1];exact hK _ _ (h _ ((hB.alloc _).set _ _) (((But.refl g W).alloc _).setCell _ _))
theorem Made.runesE{B:Nat}{w:World}{v:Value}{xs:List Int}(h:Made B w v xs):RunesAt w.heap.size w v xs:=by
 obtain⟨hl,hn|⟨g,cap,cur,rfl,hb,hg,h1,h2,h3,h4⟩⟩:=h
 · obtain⟨rfl,h0⟩:=hn
   exact⟨none,0,by rw[h0],fun h=>by omega⟩
 · refine⟨_,_,rfl,fun _=>⟨g,0,rfl,(Array.getElem?_eq_some_iff.1 hg).1,fun i x hi=>?_⟩⟩
   have hi':=(List.getElem?_eq_some_iff.1 hi).1;have hc:cur[i]?=some (.int .i32 x):=by
    (have e:(cur.toList.take (xs.length*1))[i]?=(xs.map (Value.int .i32))[i]?:=by rw[h4]);rw[List.getElem?_take,if_pos (by omega)]at e;rw[←Array.getElem?_toList,e,List.getElem?_map,hi];rfl
   simp only[World.cell?,hg,Nat.zero_add];simpa using hc
theorem RunesAt.form{E:Nat}{w:World}{v:Value}{xs:List Int}(h:RunesAt E w v xs):∃ad cap,v = .slice ad xs.length cap:=by
 obtain⟨ad,cap,e,_⟩:=h;exact⟨ad,cap,e⟩
theorem RunesAt.at{E:Nat}{w:World}{ad:Option Addr}{n cap:Nat}{xs:List Int}(h:RunesAt E w (.slice ad n cap) xs){k:Nat}{x:Int}(hk:xs[k]?=some x):∃g off,ad=some ⟨g,off,none⟩∧g<E∧w.cell? ⟨g,off+k,none⟩=some (.int .i32 x):=by
 obtain⟨ad',cap',e,hc⟩:=h;simp only[Value.slice.injEq]at e;obtain⟨rfl,_,rfl⟩:=e;obtain⟨g,off,rfl,hg,hx⟩:=hc (by have:=(List.getElem?_eq_some_iff.1 hk).1;omega);exact⟨g,off,rfl,hg,hx k x hk⟩
theorem zT5(p ys:List Int){k:Nat}(h:k≤ys.length):(dr p ys).take (k+1)=(dr p ys).take k++[(lv p (ys.take k):Int)]:=by
 rw[List.take_add_one,zNe _ _ h];rfl
theorem zT2(p ys:List Int){k:Nat}(h:k≤ys.length+1):((dr p ys).take k).length=k:=by rw[List.length_take,zIi];omega
set_option maxHeartbeats 1000000 in
theorem zUb(w:World)(g off cap:Nat)(cs ys:List Int)(hB:IBlk w g cs)(hcap:ys.length<cap)(hl:off+ys.length<cs.length)(hs:ys.length≤100000):
 Calls Tryz.prog 156 #[.slice (some ⟨g,off,none⟩) 0 cap,.int .i64 ys.length] w fun e w'=>e = .returned (.slice (some ⟨g,off,none⟩) (ys.length+1) cap)∧IBlk w' g (lay cs off (dr [] ys))∧But g w w':=by
 obtain⟨n,hn⟩:∃n,n=ys.length:=⟨_,rfl⟩;rw[←hn]at hcap hl hs ⊢;have HN:Hid (n=ys.length):=hn;clear hn;go_enter Tryz.func156,Tryz.ntmps156;go_wp2
 go_loopw [0,8] (fun v i wr=>∃k:Nat,k≤n+1∧i = .int .i64 k∧v = .slice (some ⟨g,off,none⟩) k cap∧IBlk wr g (lay cs off ((dr [] ys).take k))∧But g w wr) (fun _ i _=>n+1-(intOf i).toNat)
 case atStart=>exact⟨0,by omega,rfl,rfl,by rw[List.take_zero,zV2];exact hB,But.refl _ _⟩
 case round=>
  obtain⟨k,hk,rfl,rfl,hI,hbut⟩:=hrel;have HI:Hid (IBlk wr g (lay cs off ((dr [] ys).take k))):=hI;clear hI;by_cases hlt:k<n+1
  · have hlen:Hid (((dr [] ys).take k).length=k):=zT2 _ _ (by have:=HN.out;omega)
    have hcl:Hid ((lay cs off ((dr [] ys).take k)).length=cs.length):=zLc (by rw[hlen.out];omega);go_wp2_with (at_builtin;refine zRp rfl _ _ _ rfl g off k cap _ _ (lay cs off ((dr [] ys).take k)) (k:Int) rfl rfl rfl HI.out (by omega) (by rw[hcl.out];omega) ?_);intro w1 hI1 hb1;have HI1:Hid (IBlk w1 g (lay cs off ((dr [] ys).take (k+1)))):=by
     have e:=zOv (cs:=cs) (L:=(dr [] ys).take k) (b:=off) (by rw[hlen.out];omega) (k:Int);rw[hlen.out]at e;rw[e]at hI1;rw[List.take_add_one,dr_start _ (by have:=HN.out;omega)];exact hI1
    clear hI1;go_wp2
    go_roundw
    (case rel=>exact⟨k+1,by omega,by go_num,rfl,HI1.out,hbut.trans hb1⟩);case measure=>simp[intOf];omega
  · obtain rfl:k=n+1:=by omega
    go_wp2;go_ret;refine⟨rfl,?_,hbut⟩;have:=HI.out
    rwa [HN.out,List.take_of_length_le (by rw[zIi];omega)]at this
end
section
open Go.RowKit Go.Lib Nums Pm
namespace Bt
def cellsM(m:Mt):List Value:=[.string m.1,.int .i64 m.2.1,.int .i64 m.2.2]
def valM(m:Mt):Value := .agg #[.string m.1,.int .i64 m.2.1,.int .i64 m.2.2]
theorem rtyM:RTy 74 50 3 32:=⟨by kernel_rfl,⟨.agg #[.string .empty,.int .i64 0,.int .i64 0],by kernel_rfl,rfl⟩,by decide,by decide⟩
theorem rtyMp:RTy 74 193 3 32:=⟨by kernel_rfl,⟨.agg #[.string .empty,.int .i64 0,.int .i64 0],by kernel_rfl,rfl⟩,by decide,by decide⟩
theorem cellsM_ok(m:Mt):zG7 3 (cellsM m):=⟨rfl,by intro u hu;simp[cellsM]at hu;rcases hu with rfl|rfl|rfl<;>rfl⟩
theorem belowN{B:Nat}{a w:World}(h:Below B a w)(n:Nat):Below B a (w.drewN n):=⟨h.os,h.tape,h.output,h.size,h.block⟩
theorem zHu(w:World)(o o':Obj):Below w.heap.size w ((w.alloc o).alloc o'):=((Below.refl _ w).alloc (Nat.le_refl _) o).alloc (by simp) o'
def SmM(m:Mt):Prop:=m.1.size≤9223372036854775807
set_option maxHeartbeats 1000000 in
theorem zKb(a b:Mt)(w:World):Calls Tryz.prog 126 #[valM a,valM b] w fun e w'=>e = .returned (.bool (btr a b))∧Below w.heap.size w w':=by
 have HL:=fun W=>zDa a.1 b.1 W
 have HC:Hid (btr a b=if a.2.2=b.2.2 then (if a.2.1=b.2.1 then zAa a.1 b.1 else decide (b.2.1<a.2.1))else decide (a.2.2<b.2.2)):=rfl;by_cases h1:a.2.2=b.2.2
 · have hn1:(a.2.2 != b.2.2)=false:=by simpa using h1
   by_cases h2:a.2.1=b.2.1
   · have hn2:(a.2.1 != b.2.1)=false:=by simpa using h2
     rw[if_pos h1,if_pos h2]at HC;clear h1 h2;unfold valM;go_enter Tryz.func126,Tryz.ntmps126;go_wp2_with (go_at_call 100;refine(HL _).mono ?_;rintro e w' ⟨rfl,rfl⟩);go_ret;exact⟨by rw[HC.out];rfl,zHu _ _ _⟩
   · have hn2:(a.2.1 != b.2.1)=true:=by simpa using h2
     rw[if_pos h1,if_neg h2]at HC;clear h1 h2;unfold valM;go_enter Tryz.func126,Tryz.ntmps126;go_wp2;go_ret;exact⟨by rw[HC.out];rfl,zHu _ _ _⟩
 · have hn1:(a.2.2 != b.2.2)=true:=by simpa using h1
   rw[if_neg h1]at HC;clear h1;unfold valM;go_enter Tryz.func126,Tryz.ntmps126;go_wp2;go_ret;exact⟨by rw[HC.out];rfl,zHu _ _ _⟩
def zFp(P:Program)(x:Value)(w:World):Result Value:=(Instr.loadAt 74 x).run P w
def zC7(P:Program)(x y:Value)(w:World):Result Unit:=(Instr.storeAt 74 x y).run P w
section
variable (ρ:Operand→Value) (x y:Operand) (dst:Option Tmp) (ty:TypeId) (pos:String) (af:Array Edge) (g:Option (Nat×Bool)) (w:World)
theorem zB3:(execOp ρ ⟨dst,.load 74 x,ty,pos,af,g⟩).run Tryz.prog w=(zFp Tryz.prog (ρ x) w).andThen (fun v w' => .ok (.value v) w'):=by
 simp only[execOp,Sem.run_bind,zFp,Sem.run_pure]
theorem zBu:(execOp ρ ⟨dst,.store 74 x y,ty,pos,af,g⟩).run Tryz.prog w=(zC7 Tryz.prog (ρ x) (ρ y) w).andThen (fun _ w' => .ok .skip w'):=by
 simp only[execOp,Sem.run_bind,zC7,Sem.run_pure]
end
theorem zDp{w:World}{b o:Nat}{x:Mt}(h0:w.cell? ⟨b,o,none⟩=some (.string x.1))(h1:w.cell? ⟨b,o+1,none⟩=some (.int .i64 x.2.1))(h2:w.cell? ⟨b,o+2,none⟩=some (.int .i64 x.2.2)):zFp Tryz.prog (.pointer (some ⟨b,o,none⟩)) w = .ok (valM x) w:=by
 unfold zFp valM;simp[go_sem,h0,h1,h2];try rfl
theorem zC6{w:World}{b o:Nat}{x:Mt}{u v z:Value}(h0:w.cell? ⟨b,o,none⟩=some u)(h1:w.cell? ⟨b,o+1,none⟩=some v)(h2:w.cell? ⟨b,o+2,none⟩=some z)(f0:w.frozen? ⟨b,o,none⟩=false)(f1:w.frozen? ⟨b,o+1,none⟩=false)(f2:w.frozen? ⟨b,o+2,none⟩=false):zC7 Tryz.prog (.pointer (some ⟨b,o,none⟩)) (valM x) w = .ok () (w.setCells b o (cellsM x)):=by
 unfold zC7 valM;simp[go_sem,h0,h1,h2,f0,f1,f2,cellsM,World.setCells];try rfl
structure Upd(F:Nat→Prop)(w w':World):Prop where
 os:w'.os=w.os
 tape:w'.tape=w.tape
 output:w'.output=w.output
 size:w.heap.size≤w'.heap.size
 block:∀k,k<w.heap.size→¬F k→w'.heap[k]?=w.heap[k]?
theorem Upd.refl(F:Nat→Prop)(w:World):Upd F w w:=⟨rfl,rfl,rfl,Nat.le_refl _,fun _ _ _=>rfl⟩
theorem Upd.trans{F G:Nat→Prop}{a b c:World}(h1:Upd F a b)(h2:Upd G b c)(hG:∀k,k<a.heap.size→G k→F k):Upd F a c:=
 ⟨h2.os.trans h1.os,h2.tape.trans h1.tape,h2.output.trans h1.output,Nat.le_trans h1.size h2.size,fun k hk hF=>(h2.block k (Nat.lt_of_lt_of_le hk h1.size) (fun g=>hF (hG k hk g))).trans (h1.block k hk hF)⟩
theorem Upd.mono{F G:Nat→Prop}{a b:World}(h:Upd F a b)(hG:∀k,F k→G k):Upd G a b:=⟨h.os,h.tape,h.output,h.size,fun k hk hF=>h.block k hk (fun f=>hF (hG k f))⟩
theorem Upd.below{F:Nat→Prop}{w w':World}(h:Upd F w w'){B:Nat}(hF:∀k,F k→B≤k)(hB:B≤w.heap.size):Below B w w':=
 ⟨h.os,h.tape,h.output,h.size,fun k hk=>h.block k (by omega) (fun f=>by have:=hF k f;omega)⟩
theorem zAj{F:Nat→Prop}{w w':World}(h:Below w.heap.size w w'):Upd F w w':=⟨h.os,h.tape,h.output,h.size,fun k hk _=>h.block k hk⟩
theorem Upd.drew{F:Nat→Prop}{w w':World}(h:Upd F w w'):Upd F w w'.drew:=⟨h.os,h.tape,h.output,h.size,h.block⟩
theorem Upd.setCell{F:Nat→Prop}{w w':World}(h:Upd F w w'){a:Addr}(ha:F a.block)(u:Value):Upd F w (w'.setCell a u):=
 h.trans (G:=F) ⟨rfl,rfl,rfl,by simp[World.setCell],fun k _ hk=>Below.heap_setCell _ _ _ _ (fun e=>hk (e▸ha))⟩ (fun _ _ h=>h)
theorem Upd.setCells{F:Nat→Prop}{w:World}{g:Nat}(hg:F g):∀(vs:List Value) (o:Nat) {w':World},Upd F w w'→Upd F w (w'.setCells g o vs)
 |[],_,_,h=>h
 |v::r,o,_,h=>Upd.setCells hg r (o+1) (h.setCell (a:=⟨g,o,none⟩) hg v)
theorem Upd.grown{F:Nat→Prop}{w w' w'':World}{row:Option Nat}(h:Upd F w w')(hg:w'.grownBy w'' row)(hr:∀k,k<w.heap.size→row=some k→F k):Upd F w w'':=
 h.trans (G:=fun k=>row=some k) ⟨hg.os,hg.tape,hg.output,hg.size,fun k hk hk2=>hg.block k hk (fun e=>hk2 e.symm)⟩ hr
def setM:List Value→Nat→List Value→List Value
 |xs,_,[]=>xs
 |xs,o,v::r=>setM (xs.set o v) (o+1) r
theorem zFn{base g n cap size:Nat}{e:TypeId}:∀(vs:List Value) (o:Nat) (w:World) (xs:List Value),w.ownsRow base e size (.slice (some ⟨g,0,none⟩) n cap) n xs→(w.setCells g o vs).ownsRow base e size (.slice (some ⟨g,0,none⟩) n cap) n (setM xs o vs)
 |[],_,_,_,h=>h
 |v::r,o,_,_,h=>zFn r (o+1) _ _ (h.stored o v).1
theorem zJj(A:List Value):∀(x y R:List Value),x.length=y.length→setM (A++(y++R)) A.length x=A++(x++R)
 |[],[],_,_=>rfl
 |v::r,u::s,R,h=>by
  have:=zJj (A++[v]) r s R (by simpa using h);rw[setM];simp only[List.length_append,List.length_cons,List.length_nil,Nat.zero_add,List.append_assoc,List.singleton_append]at this;rw[show(A++(u::s++R)).set A.length v=A++v::(s++R)by simp,this];rfl
termination_by x=>x.length
theorem zMg{k:Nat}(A:List Value):∀(xss:List (List Value)) (i:Nat) (x:List Value),(∀y∈xss,y.length=k)→x.length=k→i<xss.length→setM (A++xss.flatten) (A.length+i*k) x=A++(xss.set i x).flatten
 |y::r,0,x,hk,hx,_=>by
  rw[Nat.zero_mul,Nat.add_zero,List.flatten_cons,zJj A x y _ (by rw[hx,hk y (by simp)])];simp
 |y::r,i+1,x,hk,hx,hi=>by
  have:=zMg (A++y) r i x (fun z hz=>hk z (by simp[hz])) hx (by simpa using hi);rw[List.length_append,hk y (by simp)]at this;rw[List.flatten_cons,←List.append_assoc,show A.length+(i+1)*k=A.length+k+i*k by rw[Nat.add_mul];omega,this];simp
theorem GOwn.put{T:TypeId}{k B g n cap:Nat}{w:World}{xss:List (List Value)}(h:GOwn T k B w (.slice (some ⟨g,0,none⟩) n cap) xss)(hn:n=xss.length)(i:Nat)(hi:i<xss.length)(x:List Value)(hx:zG7 k x):GOwn T k B (w.setCells g (i*k) x) (.slice (some ⟨g,0,none⟩) n cap) (xss.set i x):=by
 subst hn;refine⟨fun y hy=>?_,?_⟩
 · rcases List.mem_or_eq_of_mem_set hy with hy|rfl
   · exact h.1 y hy
   · exact hx
 · have h1:=zFn x (i*k) w _ h.2
   have h2:=zMg (k:=k) [] xss i x (fun y hy=>(h.1 y hy).1) hx.1 hi;simp only[List.nil_append,List.length_nil,Nat.zero_add]at h2;rw[h2]at h1;rw[List.length_set];exact h1
theorem GOwn.upd{T:TypeId}{k B:Nat}{w w':World}{v:Value}{xss:List (List Value)}{F:Nat→Prop}(h:GOwn T k B w v xss)(u:Upd F w w')(hF:∀g,v.ownBlock=some g→¬F g):GOwn T k B w' v xss:=
 h.same fun g hg=>u.block g (h.lt hg) (hF g hg)
theorem GOwn.mt{B:Nat}{w:World}{v:Value}{h:List Mt}(H:GOwn 74 3 B w v (h.map cellsM))(h0:0<h.length):∃g cap,v = .slice (some ⟨g,0,none⟩) h.length cap∧g<w.heap.size∧B≤g∧h.length≤cap∧∀i,i<h.length→w.cell? ⟨g,i*3,none⟩=some (.string (el h i).1)∧w.cell? ⟨g,i*3+1,none⟩=some (.int .i64 (el h i).2.1)∧w.cell? ⟨g,i*3+2,none⟩=some (.int .i64 (el h i).2.2)∧w.frozen? ⟨g,i*3,none⟩=false∧w.frozen? ⟨g,i*3+1,none⟩=false∧w.frozen? ⟨g,i*3+2,none⟩=false:=by
 obtain⟨g,cap,hv,h1,h2,h3,h4⟩:=H.cell (by rw[List.length_map];exact h0);rw[List.length_map]at hv h3;refine⟨g,cap,hv,h1,h2,h3,fun i hi=>?_⟩;have e:(h.map cellsM)[i]?=some (cellsM (el h i)):=by rw[List.getElem?_map,zW2 hi];rfl
 have hf:∀j,w.frozen? ⟨g,j,none⟩=false:=fun j=>by
  have:=H.2;rw[hv,List.length_map]at this;exact this.frozenAt j
 exact⟨h4 i 0 _ _ e rfl,h4 i 1 _ _ e rfl,h4 i 2 _ _ e rfl,hf _,hf _,hf _⟩
theorem map_set(h:List Mt)(i:Nat)(x:Mt):(h.set i x).map cellsM=(h.map cellsM).set i (cellsM x):=List.map_set ..
theorem zMq:Tryz.prog.follows .mixedOrders=true:=by kernel_rfl
end Bt
end
section
open Go.RowKit Go.Lib Nums Pm
namespace Bt
theorem zLv(w:World)(ad:Option Addr)(n cap:Nat):Calls Tryz.prog 160 #[.slice ad n cap] w fun e w'=>e = .returned (.int .i64 n)∧w'=w:=by
 go_enter Tryz.func160,Tryz.ntmps160;go_wp2;go_ret;exact⟨rfl,rfl⟩
structure S2(g a b:Nat)(x y:Mt)(W:World):Prop where
 a0:W.cell? ⟨g,a,none⟩=some (.string x.1)
 a1:W.cell? ⟨g,a+1,none⟩=some (.int .i64 x.2.1)
 a2:W.cell? ⟨g,a+2,none⟩=some (.int .i64 x.2.2)
 b0:W.cell? ⟨g,b,none⟩=some (.string y.1)
 b1:W.cell? ⟨g,b+1,none⟩=some (.int .i64 y.2.1)
 b2:W.cell? ⟨g,b+2,none⟩=some (.int .i64 y.2.2)
theorem S2.facts{g a b:Nat}{x y:Mt}{W:World}(h:S2 g a b x y W):W.cell? ⟨g,a,none⟩=some (.string x.1)∧W.cell? ⟨g,a+1,none⟩=some (.int .i64 x.2.1)∧W.cell? ⟨g,a+2,none⟩=some (.int .i64 x.2.2)∧W.cell? ⟨g,b,none⟩=some (.string y.1)∧W.cell? ⟨g,b+1,none⟩=some (.int .i64 y.2.1)∧W.cell? ⟨g,b+2,none⟩=some (.int .i64 y.2.2):=⟨h.a0,h.a1,h.a2,h.b0,h.b1,h.b2⟩
theorem S2.below{g a b:Nat}{x y:Mt}{W W':World}(h:S2 g a b x y W)(hg:g<W.heap.size)(hb:Below W.heap.size W W'):S2 g a b x y W':=
 ⟨(hb.cell (p:=⟨g,a,none⟩) hg).trans h.a0,(hb.cell (p:=⟨g,a+1,none⟩) hg).trans h.a1,(hb.cell (p:=⟨g,a+2,none⟩) hg).trans h.a2,(hb.cell (p:=⟨g,b,none⟩) hg).trans h.b0,(hb.cell (p:=⟨g,b+1,none⟩) hg).trans h.b1,(hb.cell (p:=⟨g,b+2,none⟩) hg).trans h.b2⟩
set_option maxHeartbeats 1000000 in
theorem zGb(B:Nat)(w:World)(v:Value)(h:List Mt)(H:GOwn 74 3 B w v (h.map cellsM))(i j:Nat)(hi:i<h.length)(hj:j<h.length)(hl:h.length<4611686018427387904):
 Calls Tryz.prog 220 #[v,.int .i64 i,.int .i64 j] w fun e w'=>e = .returned (.bool (btr (el h j) (el h i)))∧Below w.heap.size w w':=by
 obtain⟨g,cap,rfl,hg,_,hcap,hc⟩:=GOwn.mt H (by omega);obtain⟨i0,i1,i2,_⟩:=hc i hi;obtain⟨j0,j1,j2,_⟩:=hc j hj;have hS0:S2 g (j*3) (i*3) (el h j) (el h i) w.drew:=⟨j0,j1,j2,i0,i1,i2⟩;have HB:=fun W=>zKb (el h j) (el h i) W
 have hiz:(i:Int)<(h.length:Int):=by omega
 have hjz:(j:Int)<(h.length:Int):=by omega
 generalize el h j=y at HB hS0 ⊢;generalize el h i=x at HB hS0 ⊢;generalize h.length=n at hiz hjz hcap hl ⊢;clear H hc i0 i1 i2 j0 j1 j2 hi hj;go_enter Tryz.func220,Tryz.ntmps220;go_wp2_with fail;refine zAd (S:=S2 g (j*3) (i*3) y x) 10 rfl zMq hS0 (fun _=>?_);refine tq4 S2.facts 0 7 1 8 2 9 3 10 ?_;simp only[sZa,sZb,sZc];refine tq4 S2.facts 4 11 5 12 6 13 7 14 ?_;simp only[sZa,sZb,sZc];refine zAe (i:=8) (w0:=w.drew) 15 126 #[valM y,valM x] (by kernel_rfl) rfl rfl (by rfl) (by kernel_rfl) ((HB w.drew).mono ?_);rintro e w1 ⟨rfl,hb⟩;have hS1:S2 g (j*3) (i*3) y x w1:=hS0.below hg hb;refine⟨_,rfl,hS1,fun _=>?_⟩;simp only[sZa,sZb,sZc];refine zAu (i:=9) (v := .bool (btr y x)) (w':=w1) 6 (by kernel_rfl) rfl rfl (by rfl) (by kernel_rfl) hS1 (fun _=>?_);simp only[sZa,sZb,sZc];refine wpAnyH_done (by kernel_rfl) ?_ _;go_wp2;go_ret;exact⟨rfl,(Below.refl _ w).drew.trans hb⟩
attribute [local go_sem ↓] zB3 zBu
set_option maxHeartbeats 2000000 in
theorem zF8(B:Nat)(w:World)(v:Value)(h:List Mt)(H:GOwn 74 3 B w v (h.map cellsM))(i j:Nat)(hi:i<h.length)(hj:j<h.length)(hl:h.length<4611686018427387904):
 Calls Tryz.prog 221 #[v,.int .i64 i,.int .i64 j] w fun e w'=>e = .returned (.tuple #[])∧GOwn 74 3 B w' v ((swp h i j).map cellsM)∧Upd (fun k=>v.ownBlock=some k) w w':=by
 obtain⟨g,cap,rfl,hg,_,hcap,hc⟩:=GOwn.mt H (by omega);obtain⟨i0,i1,i2,f0,f1,f2⟩:=hc i hi;obtain⟨j0,j1,j2,_⟩:=hc j hj;have hiz:(i:Int)<(h.length:Int):=by omega
 have hjz:(j:Int)<(h.length:Int):=by omega
 have H1:GOwn 74 3 B (w.drew.setCells g (i*3) (cellsM (el h j))) (.slice (some ⟨g,0,none⟩) h.length cap) ((h.set i (el h j)).map cellsM):=by
  rw[map_set];exact GOwn.put (w:=w.drew) H (by simp) i (by simpa using hi) _ (cellsM_ok _)
 have H2:GOwn 74 3 B ((w.drew.setCells g (i*3) (cellsM (el h j))).setCells g (j*3) (cellsM (el h i))) (.slice (some ⟨g,0,none⟩) h.length cap) ((swp h i j).map cellsM):=by
  unfold swp;rw[map_set];exact GOwn.put H1 (by simp) j (by simpa using hj) _ (cellsM_ok _)
 have HU:Upd (fun k=>(Value.slice (some ⟨g,0,none⟩) h.length cap).ownBlock=some k) w ((w.drew.setCells g (i*3) (cellsM (el h j))).setCells g (j*3) (cellsM (el h i))):=Upd.setCells (F:=fun k=>(Value.slice (some ⟨g,0,none⟩) h.length cap).ownBlock=some k) (g:=g) rfl _ _ (Upd.setCells (F:=fun k=>(Value.slice (some ⟨g,0,none⟩) h.length cap).ownBlock=some k) (g:=g) rfl _ _ (Upd.refl _ w).drew);have li:zFp Tryz.prog (.pointer (some ⟨g,i*3,none⟩)) w.drew = .ok (valM (el h i)) w.drew:=zDp i0 i1 i2;have lj:zFp Tryz.prog (.pointer (some ⟨g,j*3,none⟩)) w.drew = .ok (valM (el h j)) w.drew:=zDp j0 j1 j2;have si:zC7 Tryz.prog (.pointer (some ⟨g,i*3,none⟩)) (valM (el h j)) w.drew = .ok () (w.drew.setCells g (i*3) (cellsM (el h j))):=zC6 i0 i1 i2 f0 f1 f2;have sj:zC7 Tryz.prog (.pointer (some ⟨g,j*3,none⟩)) (valM (el h i)) (w.drew.setCells g (i*3) (cellsM (el h j))) = .ok () ((w.drew.setCells g (i*3) (cellsM (el h j))).setCells g (j*3) (cellsM (el h i))):=by
  obtain⟨g',cap',hv,_,_,_,hc'⟩:=GOwn.mt H1 (by simp;omega);simp only[Value.slice.injEq,Option.some.injEq,Addr.mk.injEq,and_true]at hv;obtain⟨rfl,_,_⟩:=hv;obtain⟨k0,k1,k2,e0,e1,e2⟩:=hc' j (by simpa using hj);exact zC6 k0 k1 k2 e0 e1 e2
 have mixed:=zMq;have HG:Hid (GOwn 74 3 B ((w.drew.setCells g (i*3) (cellsM (el h j))).setCells g (j*3) (cellsM (el h i))) (.slice (some ⟨g,0,none⟩) h.length cap) ((swp h i j).map cellsM)):=H2;have HUU:Hid (Upd (fun k=>(Value.slice (some ⟨g,0,none⟩) h.length cap).ownBlock=some k) w ((w.drew.setCells g (i*3) (cellsM (el h j))).setCells g (j*3) (cellsM (el h i)))):=HU;generalize (swp h i j).map cellsM=hs at HG ⊢;generalize el h j=y at lj si sj HG HUU;generalize el h i=x at li sj HG HUU;generalize h.length=n at hiz hjz hcap hl HG HUU ⊢;clear H hc i0 i1 i2 j0 j1 j2 hi hj H1 H2 HU f0 f1 f2;go_enter Tryz.func221,Tryz.ntmps221;go_wp2_with fail
 go_big_region_o
 go_wp2;go_returns;exact⟨rfl,HG.out,HUU.out⟩
end Bt
end
