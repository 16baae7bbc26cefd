import Derived.Test.YtobjpljdgieklaaGreatDoorJ26
import Derived.Test.YtobjpljdgieklaaGreatDoorFBuild
import Derived.Test.YtobjpljdgieklaaGreatDoorJ10
import Derived.Test.YtobjpljdgieklaaGreatDoorJ20
import Derived.Test.YtobjpljdgieklaaGreatDoorJ30
set_option maxRecDepth 100000
namespace Go.Proofs.YtobjpljdgieklaaGreatDoor
namespace Fm
open Go.Proofs.YtobjpljdgieklaaGreatDoor.Nums
def zNl:List Int→List En→List En
 |[],S=>S
 |c::t,S=>zNl t (after c S)
theorem zS8(c:Int)(S:List En):after c (zAk S)=after c S:=by
 cases S with
 |nil=>rfl
 |cons e r=>
  obtain⟨x,n⟩:=e;cases x with
  |nil=>simp[zAk,after]
  |cons d t=>rfl
theorem zEm{c:Int}:∀(gs:List (Int×List En)),(∀p∈gs,p.1≠c)→after c (flat gs)=[]
 |[],_=>rfl
 |p::r,h=>by
  have e:flat (p::r)=p.2.map (pre p.1)++flat r:=rfl;rw[e,zBu,zEk,if_neg (h p (by simp)),zEm r fun x hx=>h x (by simp[hx])];rfl
theorem zKc{c:Int}:∀(gs:List (Int×List En)) (p:Int×List En),gs.Pairwise (fun a b=>a.1<b.1)→p∈gs→p.1=c→after c (flat gs)=p.2
 |[],_,_,h,_=>by cases h
 |x::r,p,hp,h,hc=>by
  obtain⟨h1,h2⟩:=List.pairwise_cons.1 hp;have e:flat (x::r)=x.2.map (pre x.1)++flat r:=rfl;rw[e,zBu,zEk];rcases List.mem_cons.1 h with rfl|h
  · rw[if_pos hc,zEm r fun y hy=>by have:=h1 y hy;omega,List.append_nil]
  · have:=h1 p h
    rw[if_neg (by omega),zKc r p h2 h hc];rfl
theorem zWb{S:List En}(hS:Rise S){p:Int×List En}(hp:p∈grp (zAk S)):after p.1 S=p.2:=by
 obtain⟨h1,h2⟩:=zCa hS;have hf:=zEt _ (zAk S) (Nat.le_refl _) h2;have hl:=(zEr _ (zAk S) (Nat.le_refl _) h2 h1).1;rw[←zS8,←hf];exact zKc _ p hl hp rfl
theorem zP0{S R:List En}(hs:Sub S R):Rise S→S≠[]→∃xs n,(xs,n)∈S∧∃k,k≤xs.length∧R=zAs (zNl (xs.take k) S):=by
 induction hs with
 |here S=>
  intro _ hne;obtain⟨e,he⟩:=List.exists_mem_of_ne_nil _ hne;exact⟨e.1,e.2,he,0,Nat.zero_le _,rfl⟩
 |@step S R p hp hsub ih=>
  intro hr _;have hpa:=zWb hr hp;obtain⟨h1,h2⟩:=zCa hr;obtain⟨xs,n,hm,k,hk,hR⟩:=ih (zHa _ (zAk S) (Nat.le_refl _) h2 h1 p hp) (zJy _ _ (Nat.le_refl _) p hp);rw[←hpa]at hm hR;exact⟨p.1::xs,n,zEl hm,k+1,by simpa using hk,by rw[List.take_succ_cons];exact hR⟩
theorem zGs:∀(p:List Int) (S:List En) (e:En),e∈zNl p S→∃x∈S,e.2=x.2∧e.1.length≤x.1.length
 |[],S,e,h=>⟨e,h,rfl,Nat.le_refl _⟩
 |c::t,S,e,h=>by
  obtain⟨x,hx,h1,h2⟩:=zGs t (after c S) e h;refine⟨pre c x,zEl hx,h1,?_⟩;simp only[pre,List.length_cons];omega
theorem zGt:∀(p:List Int) (S:List En),(zNl p S).length≤S.length
 |[],_=>Nat.le_refl _
 |c::t,S=>by
  have h1:=zGt t (after c S);have h2:∀l:List En,(after c l).length≤l.length:=by
   intro l
   induction l with
   |nil=>exact Nat.le_refl _
   |cons e r ih=>
    rw[after]
    split
    · simp only[List.length_cons];omega
    · simp only[List.length_cons];omega
  have:=h2 S;rw[zNl];omega
theorem same_len{α:Type}[DecidableEq α]:∀(l m:List α),l.Nodup→m.Nodup→(∀x,x∈l↔x∈m)→l.length=m.length:=by
 have le:∀(l m:List α),l.Nodup→(∀x∈l,x∈m)→l.length≤m.length:=by
  intro l
  induction l with
  |nil=>intro m _ _;exact Nat.zero_le _
  |cons x r ih=>
   intro m hn hs;obtain⟨h1,h2⟩:=List.nodup_cons.1 hn;have hx:=hs x (by simp);(have:=ih (m.erase x) h2 fun y hy=>(List.mem_erase_of_ne (fun e:y=x=>h1 (by rw[←e];exact hy))).2 (hs y (by simp[hy])));have hl:=List.length_erase_of_mem hx;have hp:0<m.length:=List.length_pos_of_mem hx;simp only[List.length_cons];omega
 intro l m hl hm h;exact Nat.le_antisymm (le l m hl fun x hx=>(h x).1 hx) (le m l hm fun x hx=>(h x).2 hx)
end Fm
namespace Fm
open Go.Proofs.YtobjpljdgieklaaGreatDoor.Nums
def refA(st:List (List En)→List St→List En→List (List En)×List St×Nat):List (List En)→List St→List (Int×List En)→List (List En)×List St×List Arc
 |D,b,[]=>(D,b,[])
 |D,b,(c,G)::r=>((refA st (st D b G).1 (st D b G).2.1 r).1,(refA st (st D b G).1 (st D b G).2.1 r).2.1,⟨c,least G,(st D b G).2.2⟩::(refA st (st D b G).1 (st D b G).2.1 r).2.2)
def refF:Nat→List (List En)→List St→List En→List (List En)×List St×Nat
 |0,D,b,_=>(D,b,0)
 |f+1,D,b,S=>if zAs S∈D then (D,b,D.idxOf (zAs S))else
  ((refA (refF f) D b (grp (zAk (zAs S)))).1++[zAs S],(refA (refF f) D b (grp (zAk (zAs S)))).2.1++[⟨zDg S,zC0 (zAs S),(refA (refF f) D b (grp (zAk (zAs S)))).2.2⟩],(refA (refF f) D b (grp (zAk (zAs S)))).2.1.length)
theorem zOu{D D2:List (List En)}{b:List St}(h:Inv D b)(h2:Inv D2 b):D=D2:=by
 have key:∀n i:Nat,i<n→D[i]?=D2[i]?:=by
  intro n
  induction n with
  |zero=>intro i hi;omega
  |succ n ih=>
   intro i hi;by_cases hib:i<b.length
   · obtain⟨s,hs⟩:∃s,b[i]?=some s:=⟨b[i],List.getElem?_eq_getElem hib⟩
     obtain⟨e1,t1,_⟩:=h.row i s hs;obtain⟨e2,_,_⟩:=h2.row i s hs;rw[e1,e2];unfold exp outs
     have:(s.arcs.map fun a=>(a.label,zAn a.out (D[a.to]?.getD [])))=s.arcs.map fun a=>(a.label,zAn a.out (D2[a.to]?.getD [])):=
      List.map_congr_left fun a ha=>by rw[ih a.to (by have:=t1 a ha;omega)]
     rw[this]
   · rw[List.getElem?_eq_none (by have:=h.len;omega),List.getElem?_eq_none (by have:=h2.len;omega)]
 exact List.ext_getElem? fun i=>key (i+1) i (Nat.lt_succ_self i)
theorem inv_push{D:List (List En)}{b:List St}{s:St}{L:List En}(h:Inv D b)(hcan:Canon D s)(hexp:exp D s=L)(hn:L∉D)(hL:L≠[]∧least L=0):Inv (D++[L]) (b++[s]):=by
 have hlen:=h.len;have hpre:D<+:D++[L]:=List.prefix_append _ _;refine⟨by simp[hlen],fun i t hi=>?_,?_,fun R hR=>?_⟩
 · by_cases hib:i<b.length
   · rw[List.getElem?_append_left hib]at hi
     obtain⟨e1,e2,ct⟩:=h.row i t hi;refine⟨?_,e2,ct.pre hpre⟩;rw[zK2 hpre (by omega),e1,zIc hpre ct.to]
   · rw[List.getElem?_append_right (by omega)]at hi
     cases hi0:i-b.length with
     |zero=>
      rw[hi0]at hi;simp only[List.getElem?_cons_zero,Option.some.injEq]at hi;subst hi;refine⟨?_,fun a ha=>by have:=hcan.to a ha;omega,hcan.pre hpre⟩;rw[zIc hpre hcan.to,hexp,List.getElem?_append_right (by omega),hlen,hi0];rfl
     |succ j=>rw[hi0]at hi;simp at hi
 · rw[List.nodup_append]
   exact⟨h.nd,by simp,fun a ha c hc=>by rw[List.mem_singleton.1 hc];exact fun e=>hn (e▸ha)⟩
 · rcases List.mem_append.1 hR with h1|h1
   · exact h.lv R h1
   · rw[List.mem_singleton.1 h1];exact hL
theorem zFs{S:List En}{e:En}(h:e∈zAk S):e∈S:=by
 cases S with
 |nil=>exact h
 |cons y r=>
  obtain⟨a,n⟩:=y;cases a with
  |nil=>exact .tail _ h
  |cons c t=>exact h
theorem zWa:∀(m:Nat) (l:List En),l.length≤m→∀p∈grp l,∀e∈p.2,∃x∈l,e=tl x
 |_,[],_,_,hp,_,_=>by cases hp
 |0,y::r,h,_,_,_,_=>by simp at h
 |m+1,y::r,hl,p,hp,e,he=>by
  rw[zCu]at hp;rcases List.mem_cons.1 hp with rfl|hp
  · obtain⟨x,hx,rfl⟩:=List.mem_map.1 he
    exact⟨x,List.mem_of_mem_take hx,rfl⟩
  · obtain⟨x,hx,h2⟩:=zWa m ((y::r).drop (lead (hd y) r+1)) (by rw[List.length_drop];simp at hl ⊢;omega) p hp e he
    exact⟨x,List.mem_of_mem_drop hx,h2⟩
theorem zTs{T R:List En}(hs:Sub T R){k:Nat}:(∀e∈T,e.1.length≤k)→∀e∈R,e.1.length≤k:=by
 induction hs with
 |here T=>
  intro h e he;obtain⟨x,hx,rfl⟩:=List.mem_map.1 he;exact h x hx
 |@step T' R' p hp hsub ih=>
  intro h;refine ih fun e he=>?_
  obtain⟨x,hx,rfl⟩:=zWa _ _ (Nat.le_refl _) p hp e he;have:=h x (zFs hx);simp only[tl,List.length_tail];omega
theorem zVc:∀T:List En,T≠[]→∃e∈T,∀x∈T,x.1.length≤e.1.length
 |[],h=>absurd rfl h
 |y::r,_=>by
  by_cases hr:r=[]
  · subst hr;exact⟨y,by simp,fun x hx=>by rw[List.mem_singleton]at hx;subst hx;exact Nat.le_refl _⟩
  · obtain⟨e,he,h⟩:=zVc r hr
    by_cases hl:e.1.length≤y.1.length
    · exact⟨y,by simp,fun x hx=>by
       rcases List.mem_cons.1 hx with rfl|hx
       · exact Nat.le_refl _
       · exact Nat.le_trans (h x hx) hl⟩
    · exact⟨e,by simp[he],fun x hx=>by
       rcases List.mem_cons.1 hx with rfl|hx
       · omega
       · exact h x hx⟩
theorem not_own{S:List En}(h0:S≠[])(hr:Rise S){p:Int×List En}(hp:p∈grp (zAk S)):¬Sub p.2 (zAs S):=fun h=>by
 obtain⟨_,hr2⟩:=zCa hr;obtain⟨e,he,hmax⟩:=zVc S h0;obtain⟨g0,hg0⟩:∃g0,g0∈p.2:=List.exists_mem_of_ne_nil _ (zJy _ _ (Nat.le_refl _) p hp);have hpos:0<e.1.length:=by
  have:=hmax _ (zFs (zGn hr2 hp hg0));simp only[pre,List.length_cons]at this;omega
 have hk:=zTs h (k:=e.1.length-1) (fun x hx=>by
  have:=hmax _ (zFs (zGn hr2 hp hx));simp only[pre,List.length_cons]at this;omega) (e.1,e.2 + -least S) (List.mem_map.2 ⟨e,he,rfl⟩)
 simp only at hk;omega
theorem zOl(n:Int){S:List En}(h:S≠[]):zC0 (zAn n S)=zC0 S:=by
 cases S with
 |nil=>exact absurd rfl h
 |cons e r=>
  have hs:=zB3 n h;obtain⟨x,m⟩:=e;cases x with
  |nil=>
   show m+n-least (zAn n (([],m)::r))=m-least (([],m)::r);omega
  |cons c t=>rfl
theorem zR7(f:Nat)(D:List (List En))(b:List St)(n:Int){S:List En}(h:S≠[]):refF f D b (zAn n S)=refF f D b S:=by
 cases f with
 |zero=>rfl
 |succ f=>rw[refF,refF,zE3 n h,zIa]
theorem zUc{f:Nat}{base:Int}(ih:∀(D:List (List En)) (b:List St) (S:List En),Inv D b→Good f S→(refF f D b S).2=stF f b S∧Inv (refF f D b S).1 (stF f b S).1):
 ∀(gs:List (Int×List En)) (D:List (List En)) (b:List St),Inv D b→(∀p∈gs,Good f p.2)→(refA (refF f) D b (gs.map fun p=>(p.1,zAn (-base) p.2))).2=arF (stF f) base b gs∧Inv (refA (refF f) D b (gs.map fun p=>(p.1,zAn (-base) p.2))).1 (arF (stF f) base b gs).1
 |[],D,b,hI,_=>⟨rfl,hI⟩
 |(c,G)::r,D,b,hI,hG=>by
  have hGG:=hG (c,G) (by simp);obtain⟨e1,i1⟩:=ih D b G hI hGG;obtain⟨e2,i2⟩:=zUc ih r (refF f D b G).1 (stF f b G).1 i1 (fun p hp=>hG p (by simp[hp]));have hne:G≠[]:=hGG.1;have hl:least (zAn (-base) G)=least G-base:=by rw[zB3 _ hne];omega
  simp only[List.map_cons,refA,arF,zR7 f D b (-base) hne,e1,hl];refine⟨?_,i2⟩;rw[←e2]
theorem zUb:∀(f:Nat) (D:List (List En)) (b:List St) (S:List En),Inv D b→Good f S→(refF f D b S).2=stF f b S∧Inv (refF f D b S).1 (stF f b S).1
 |0,_,_,S,_,h=>by
  obtain⟨h0,_,h2⟩:=h;cases S with
  |nil=>exact absurd rfl h0
  |cons e r=>exact absurd (h2 e (by simp)) (by omega)
 |f+1,D,b,S,hI,hG=>by
  by_cases hm:zAs S∈D
  · obtain⟨D',M⟩:=zCq (f+1) D b S hI hG
    obtain⟨e1,e2⟩:=M.old (D.idxOf (zAs S)) (by rw[List.getElem?_eq_getElem (List.idxOf_lt_length_of_mem hm),List.getElem_idxOf]);rw[e1,refF,if_pos hm];exact⟨rfl,hI⟩
  · obtain⟨hr1,hr2⟩:=zCa hG.2.1
    have hgg:=zDq hG;have hfl:=zEt _ (zAk S) (Nat.le_refl _) hr2;have hlab:=(zEr _ (zAk S) (Nat.le_refl _) hr2 hr1).1;obtain⟨D1,M⟩:=zHi (base:=least S) (zCq f) (grp (zAk S)) D b hI hgg;obtain⟨e1,i1⟩:=zUc (base:=least S) (zUb f) (grp (zAk S)) D b hI hgg;(have hgr:grp (zAk (zAs S))=(grp (zAk S)).map fun p=>(p.1,zAn (-least S) p.2):=by rw[zAs,zGw,zH8]);have ho:zC0 (zAs S)=zC0 S:=zOl _ hG.1;rw[refF,if_neg hm,stF,hgr,ho];rw[zOu i1 M.inv,e1];generalize arF (stF f) (least S) b (grp (zAk S))=q at M;obtain⟨b1,arcs⟩:=q;simp only at M ⊢;have hcan:Canon D1 ⟨zDg S,zC0 S,arcs⟩:=by
     refine⟨zHx M.outs hlab,M.to,fun h=>?_⟩;cases S with
     |nil=>rfl
     |cons e r=>
      obtain⟨x,n⟩:=e;cases x with
      |nil=>cases h
      |cons c t=>rfl
    have hexp:exp D1 ⟨zDg S,zC0 S,arcs⟩=zAs S:=by
     rw[exp,zAs,zGp S arcs,M.outs,←zGo,hfl]
    have hn1:zAs S∉D1:=fun h=>by
     rcases M.sub _ h with h|⟨p,hp,h⟩
     · exact hm h
     · exact not_own hG.1 hG.2.1 hp h
    have hnot:(⟨zDg S,zC0 S,arcs⟩:St)∉b1:=fun h=>by
     obtain⟨j,hj⟩:=List.mem_iff_getElem?.1 h;have h1:=(M.inv.row j _ hj).1;rw[hexp]at h1;exact hn1 (List.mem_of_getElem? h1)
    rw[zDd,if_neg hnot];exact⟨rfl,inv_push M.inv hcan hexp hn1 ⟨zLd.2 hG.1,zH5 hG.1⟩⟩
end Fm
namespace Pk
open Go.Proofs.YtobjpljdgieklaaGreatDoor.Nums Go.Proofs.YtobjpljdgieklaaGreatDoor.Fm
def zAt(a:Arc):RArc:=⟨a.label,a.out,a.to⟩
def ofSt(s:St):RSt:=⟨s.final,s.out,s.arcs.map zAt⟩
theorem zUt{a c:Arc}(h:zAt a=zAt c):a=c:=by
 cases a;cases c;simp only[zAt,RArc.mk.injEq]at h;obtain⟨h1,h2,h3⟩:=h;simp only[Arc.mk.injEq];exact⟨h1,h2,by omega⟩
theorem zJn:∀{l m:List Arc},l.map zAt=m.map zAt→l=m
 |[],[],_=>rfl
 |[],_::_,h=>by simp at h
 |_::_,[],h=>by simp at h
 |a::l,c::m,h=>by
  simp only[List.map_cons,List.cons.injEq]at h;rw[zUt h.1,zJn h.2]
theorem ofSt_inj{s t:St}(h:ofSt s=ofSt t):s=t:=by
 cases s;cases t;simp only[ofSt,RSt.mk.injEq]at h;obtain⟨h1,h2,h3⟩:=h;rw[h1,h2,zJn h3]
theorem zQb {f : Nat} (ih : ∀ (D : List (List En)) (b : List St) (S : List En), Inv D b → Fm.Good f S →
      ((refF f D b S).2.1=b∧(refF f D b S).2.2<b.length)∨((refF f D b S).2.2+1=(refF f D b S).2.1.length∧b.length≤(refF f D b S).2.2∧b<+:(refF f D b S).2.1∧∀M,(refF f D b S).2.1<+:M→∀F,f≤F→vis8 (M.map ofSt) F (refF f D b S).2.2 b.length=some (refF f D b S).2.1.length)):
 ∀(gs:List (Int×List En)) (D:List (List En)) (b:List St),Inv D b→(∀p∈gs,Fm.Good f p.2)→b<+:(refA (refF f) D b gs).2.1∧∀M,(refA (refF f) D b gs).2.1<+:M→∀F,f≤F→zDj (vis8 (M.map ofSt) F) ((refA (refF f) D b gs).2.2.map zAt) b.length=some (refA (refF f) D b gs).2.1.length
 |[],D,b,_,_=>⟨List.prefix_refl _,fun M _ F _=>rfl⟩
 |(c,G)::r,D,b,hI,hG=>by
  have hGG:=hG (c,G) (by simp);obtain⟨e1,e2⟩:=zUb f D b G hI hGG;have e2':Inv (refF f D b G).1 (refF f D b G).2.1:=by rw[e1];exact e2
  obtain⟨p1,p2⟩:=zQb ih r (refF f D b G).1 (refF f D b G).2.1 e2' (fun p hp=>hG p (by simp[hp]));rw[refA];simp only[List.map_cons];rcases ih D b G hI hGG with⟨h1,h2⟩|⟨h1,h2,h3,h4⟩
  · rw[h1]at p1 p2 ⊢
    refine⟨p1,fun M hM F hF=>?_⟩;rw[zDj,if_neg (by simp only[zAt];omega)];exact p2 M hM F hF
  · refine⟨h3.trans p1,fun M hM F hF=>?_⟩
    rw[zDj,if_pos (by simp only[zAt];omega)];have:=h4 M (p1.trans hM) F hF;simp only[zAt,Int.toNat_natCast];rw[this];exact p2 M hM F hF
theorem zQa : ∀ (f : Nat) (D : List (List En)) (b : List St) (S : List En), Inv D b → Fm.Good f S →
      ((refF f D b S).2.1=b∧(refF f D b S).2.2<b.length)∨((refF f D b S).2.2+1=(refF f D b S).2.1.length∧b.length≤(refF f D b S).2.2∧b<+:(refF f D b S).2.1∧∀M,(refF f D b S).2.1<+:M→∀F,f≤F→vis8 (M.map ofSt) F (refF f D b S).2.2 b.length=some (refF f D b S).2.1.length)
 |0,_,_,S,_,h=>by
  obtain⟨h0,_,h2⟩:=h;cases S with
  |nil=>exact absurd rfl h0
  |cons e r=>exact absurd (h2 e (by simp)) (by omega)
 |f+1,D,b,S,hI,hG=>by
  rw[refF];by_cases hm:zAs S∈D
  · rw[if_pos hm]
    refine .inl ⟨rfl,?_⟩;have:=List.idxOf_lt_length_of_mem hm;simp only;rw[←hI.len];exact this
  · rw[if_neg hm]
    have hGl:Fm.Good (f+1) (zAs S):=⟨zLd.2 hG.1,by unfold Rise zAs zAn;rw[List.pairwise_map];exact hG.2.1,fun e he=>by
     obtain⟨x,hx,rfl⟩:=List.mem_map.1 he;exact hG.2.2 x hx⟩
    obtain⟨p1,p2⟩:=zQb (zQa f) (grp (zAk (zAs S))) D b hI (zDq hGl);generalize refA (refF f) D b (grp (zAk (zAs S)))=q at p1 p2;obtain⟨D1,b1,acc⟩:=q;simp only at p1 p2 ⊢;refine .inr ⟨by simp,p1.length_le,p1.trans (List.prefix_append _ _),fun M hM F hF=>?_⟩;obtain⟨F',rfl⟩:∃F',F=F'+1:=⟨F-1,by omega⟩;have hn:(M.map ofSt).getD b1.length ⟨false,0,[]⟩=ofSt ⟨zDg S,zC0 (zAs S),acc⟩:=by
     obtain⟨t,rfl⟩:=hM;simp[List.getD_eq_getElem?_getD]
    rw[vis8,hn];have:=p2 M ((List.prefix_append _ _).trans hM) F' (by omega);show Option.bind (zDj (vis8 (M.map ofSt) F') (acc.map zAt) b.length) _=_;rw[this];simp
def mxL:List En→Int
 |[]=>0
 |e::r=>max (e.1.length:Int) (mxL r)
def mxW:List En→Int
 |[]=>0
 |e::r=>max e.2 (mxW r)
theorem mxL_nn:∀l:List En,0≤mxL l
 |[]=>Int.le_refl _
 |e::r=>by rw[mxL];have:=mxL_nn r;omega
theorem mxW_nn:∀l:List En,0≤mxW l
 |[]=>Int.le_refl _
 |e::r=>by rw[mxW];have:=mxW_nn r;omega
theorem zJq:∀a b:List En,mxL (a++b)=max (mxL a) (mxL b)
 |[],b=>by have:=mxL_nn b;simp only[List.nil_append,mxL];omega
 |e::r,b=>by rw[List.cons_append,mxL,mxL,zJq r b];omega
theorem zJp:∀a b:List En,mxW (a++b)=max (mxW a) (mxW b)
 |[],b=>by have:=mxW_nn b;simp only[List.nil_append,mxW];omega
 |e::r,b=>by rw[List.cons_append,mxW,mxW,zJp r b];omega
theorem mxL_le:∀(l:List En) (n:Int),0≤n→(∀e∈l,(e.1.length:Int)≤n)→mxL l≤n
 |[],n,h,_=>h
 |e::r,n,h,hl=>by
  rw[mxL];have:=mxL_le r n h fun x hx=>hl x (by simp[hx])
  have:=hl e (by simp);omega
theorem mxW_le:∀(l:List En) (n:Int),0≤n→(∀e∈l,e.2≤n)→mxW l≤n
 |[],n,h,_=>h
 |e::r,n,h,hl=>by
  rw[mxW];have:=mxW_le r n h fun x hx=>hl x (by simp[hx])
  have:=hl e (by simp);omega
theorem zUz(c n:Int):∀l:List En,l≠[]→mxL ((zAn n l).map (pre c))=mxL l+1
 |[e],_=>by
  simp only[zAn,pre,List.map_cons,List.map_nil,mxL,List.length_cons];omega
 |e::x::r,_=>by
  have ih:=zUz c n (x::r) (by simp);have e1:(zAn n (e::x::r)).map (pre c)=(c::e.1,e.2+n)::(zAn n (x::r)).map (pre c):=rfl;have e2:mxL (e::x::r)=max (e.1.length:Int) (mxL (x::r)):=rfl;rw[e1,mxL,ih,e2];simp only[List.length_cons];omega
theorem zUy(c n:Int)(hn:0≤n):∀l:List En,l≠[]→(∀e∈l,0≤e.2)→mxW ((zAn n l).map (pre c))=n+mxW l
 |[e],_,h=>by
  have:=h e (by simp);simp only[zAn,pre,List.map_cons,List.map_nil,mxW];omega
 |e::x::r,_,h=>by
  have ih:=zUy c n hn (x::r) (by simp) (fun y hy=>h y (by simp only[List.mem_cons]at hy ⊢;exact .inr hy));have e1:(zAn n (e::x::r)).map (pre c)=(c::e.1,e.2+n)::(zAn n (x::r)).map (pre c):=rfl;have e2:mxW (e::x::r)=max e.2 (mxW (x::r)):=rfl;rw[e1,mxW,ih,e2];simp only;omega
def zEx(R:List En):Reach:=⟨mxL R,R.length,mxW R⟩
theorem zRi(D:List (List En))(known:List Reach)(hk:∀(j:Nat) (R:List En),D[j]?=some R→known[j]?=some (zEx R))(hD:∀R∈D,R≠[]∧∀e∈R,0≤e.2):
 ∀(l:List Arc) (T:List En),(∀a∈l,a.to<D.length∧0≤a.out∧a.out≤1048576)→(l.map zAt).foldl (zE0 known) (zEx T)=zEx (T++flat (outs D l))
 |[],T,_=>by simp[outs,flat]
 |a::l,T,h=>by
  obtain⟨h1,h2,h3⟩:=h a (by simp);have hR:D[a.to]?=some D[a.to]:=List.getElem?_eq_getElem h1;obtain⟨g1,g2⟩:=hD _ (List.getElem_mem h1);have hkn:=hk _ _ hR;have hstep:zE0 known (zEx T) (zAt a)=zEx (T++(zAn a.out D[a.to]).map (pre a.label)):=by
   unfold zE0 zEx;simp only[zAt,Int.toNat_natCast,List.getD_eq_getElem?_getD,hkn,Option.getD_some,zEx];rw[zJq,zJp,zUz _ _ _ g1,zUy _ _ h2 _ g1 g2];simp only[Reach.mk.injEq,List.length_append,List.length_map];refine⟨trivial,?_,?_⟩
   · simp[zAn]
   · congr 1
     omega
  rw[List.map_cons,List.foldl_cons,hstep,zRi D known hk hD l _ (fun x hx=>h x (by simp[hx]))];congr 1;simp only[outs,flat,List.map_cons,List.flatMap_cons,hR,Option.getD_some,List.append_assoc]
theorem beh_exp{D:List (List En)}{known:List Reach}(hk:∀(j:Nat) (R:List En),D[j]?=some R→known[j]?=some (zEx R))(hD:∀R∈D,R≠[]∧∀e∈R,0≤e.2){s:St}(h:∀a∈s.arcs,a.to<D.length∧0≤a.out∧a.out≤1048576)(ho:s.final=true→0≤s.out):behR (ofSt s) known=zEx (exp D s):=by
 unfold behR exp;have e1:(if (ofSt s).final then (⟨0,1,(ofSt s).out⟩:Reach)else ⟨0,0,0⟩)=zEx (fins s):=by
  show(if s.final then (⟨0,1,s.out⟩:Reach)else ⟨0,0,0⟩)=_;unfold fins zEx;cases hf:s.final with
  |false=>rfl
  |true=>
   have:=ho hf;simp only[if_true,mxL,mxW,List.length_nil,List.length_singleton,Reach.mk.injEq];omega
 rw[e1];exact zRi D known hk hD s.arcs (fins s) h
theorem exp_take{D:List (List En)}{s:St}{i:Nat}(h:∀a∈s.arcs,a.to<i)(hi:i≤D.length):exp D s=exp (D.take i) s:=
 zIc (List.take_prefix i D) (fun a ha=>by rw[List.length_take];have:=h a ha;omega)
structure Rests(base:Int)(D:List (List En)):Prop where
 ne:∀R∈D,R≠[]
 nn:∀R∈D,∀e∈R,0≤e.2
 ln:∀R∈D,∀e∈R,e.1.length≤24
 few:∀R∈D,R.length≤4096
 wt:∀R∈D,∀e∈R,e.2≤1048576-base
 rn:∀R∈D,∀e∈R,∀c∈e.1,zC3 c=true
 lo:1≤base
 hi:base≤1048576
theorem arc_in{D:List (List En)}{s:St}{a:Arc}(ha:a∈s.arcs)(ht:a.to<D.length){e:En}(he:e∈D[a.to]):(a.label::e.1,e.2+a.out)∈exp D s:=by
 unfold exp;refine List.mem_append.2 (.inr ?_);unfold flat outs;refine List.mem_flatMap.2 ⟨(a.label,zAn a.out (D[a.to]?.getD [])),List.mem_map.2 ⟨a,ha,rfl⟩,?_⟩;rw[List.getElem?_eq_getElem ht];exact List.mem_map.2 ⟨(e.1,e.2+a.out),List.mem_map.2 ⟨e,he,rfl⟩,rfl⟩
theorem zDi{base:Int}{D:List (List En)}{b:List St}(hI:Inv D b)(hR:Rests base D){i:Nat}{s:St}(hi:b[i]?=some s):∀a∈s.arcs,a.to<i∧0≤a.out∧a.out≤1048576∧zC3 a.label=true:=fun a ha=>by
 obtain⟨e1,e2,e3⟩:=hI.row i s hi;have ht:=e3.to a ha;have hne:=hR.ne _ (List.getElem_mem ht);obtain⟨e,he⟩:=List.exists_mem_of_ne_nil _ hne;have hin:=arc_in ha ht he;have hD:=List.mem_of_getElem? e1;have h1:=hR.wt _ hD _ hin;have h2:=hR.rn _ hD _ hin a.label (by simp);have h3:=hR.nn _ (List.getElem_mem ht) e he;have h4:=hR.lo;obtain⟨_,h5,_⟩:=zCk hI hi;have:=h5 a ha;simp only at h1;exact⟨e2 a ha,by omega,by omega,h2⟩
theorem zXg{base:Int}{D:List (List En)}{b:List St}(hI:Inv D b)(hR:Rests base D):∀(n:Nat),n≤b.length→bndB base ((D.take (b.length-n)).map zEx) ((b.drop (b.length-n)).map ofSt)=true
 |0,_=>by simp[bndB]
 |n+1,hn=>by
  have ih:=zXg hI hR n (by omega);obtain⟨i,hi⟩:∃i,i=b.length-(n+1):=⟨_,rfl⟩;have hi1:b.length-n=i+1:=by omega
  rw[hi1]at ih;rw[←hi];have hil:i<b.length:=by omega
  obtain⟨s,hs⟩:∃s,b[i]?=some s:=⟨b[i],List.getElem?_eq_getElem hil⟩;obtain⟨e1,e2,e3⟩:=hI.row i s hs;have hdr:b.drop i=s::b.drop (i+1):=by rw[List.drop_eq_getElem_cons hil];congr 1;rw[List.getElem?_eq_getElem hil]at hs;exact Option.some.inj hs
  have hiD:i≤D.length:=by have:=hI.len;omega
  obtain⟨l1,l2,l3⟩:=zCk hI hs;have hbe:behR (ofSt s) ((D.take i).map zEx)=zEx (exp D s):=by
   rw[exp_take e2 hiD];refine beh_exp (fun j R hj=>by rw[List.getElem?_map,hj];rfl) (fun R hR'=>?_) (fun a ha=>?_) l1
   · have:=List.mem_of_mem_take hR'
     exact⟨hR.ne R this,hR.nn R this⟩
   · obtain⟨a1,a2,a3,_⟩:=zDi hI hR hs a ha
     exact⟨by rw[List.length_take];omega,a2,a3⟩
  have hD:=List.mem_of_getElem? e1;have htk:D.take (i+1)=D.take i++[exp D s]:=by rw[List.take_add_one,e1];rfl
  rw[hdr,List.map_cons,bndB,hbe];have hok:okR base (zEx (exp D s))=true:=by
   unfold okR zEx;have h1:=mxL_le (exp D s) 24 (by omega) (fun e he=>by have:=hR.ln _ hD e he;omega);have h2:=hR.few _ hD;have h3:=mxW_le (exp D s) (1048576-base) (by have:=hR.hi;omega) (fun e he=>hR.wt _ hD e he);simp only[decide_eq_true_eq];omega
  rw[hok,Bool.true_and];rw[htk,List.map_append]at ih;exact ih
theorem zU4:∀(l:List RArc) (m:Int),minF m l≤m∧∀a∈l,minF m l≤a.out
 |[],m=>⟨Int.le_refl _,fun a ha=>by cases ha⟩
 |a::r,m=>by
  obtain⟨h1,h2⟩:=zU4 r (min m a.out);rw[minF];refine⟨by omega,fun x hx=>?_⟩;rcases List.mem_cons.1 hx with rfl|hx
  · omega
  · exact h2 x hx
theorem zU3:∀(l:List RArc) (m:Int),0≤m→(∀a∈l,0≤a.out)→0≤minF m l
 |[],m,h,_=>h
 |a::r,m,h,hl=>by
  rw[minF];have:=hl a (by simp);exact zU3 r _ (by omega) fun x hx=>hl x (by simp[hx])
theorem ord_of:∀(l:List RArc) (n:Int) (p:Option Int),l.Pairwise (fun a c=>a.label<c.label)→(∀a∈l,zC3 a.label=true∧0≤a.to∧a.to<n)→(∀q,p=some q→∀a∈l,q<a.label)→ordB n p l=true
 |[],_,_,_,_,_=>rfl
 |a::r,n,p,hp,ha,hq=>by
  obtain⟨h1,h2⟩:=List.pairwise_cons.1 hp;obtain⟨g1,g2,g3⟩:=ha a (by simp);have hany:(p.any fun q=>decide (a.label≤q))=false:=by
   cases p with
   |none=>rfl
   |some q=>
    have:=hq q rfl a (by simp);simp only[Option.any_some,decide_eq_false_iff_not];omega
  rw[ordB,hany,g1,decide_eq_true ⟨g2,g3⟩];simp only[Bool.not_false,Bool.true_and];exact ord_of r n _ h2 (fun x hx=>ha x (by simp[hx])) (fun q hq' x hx=>by cases hq';exact h1 x hx)
theorem zWf:∀(l:List RSt) (i:Nat),(∀(j:Nat) (s:RSt),l[j]?=some s→zI6 s (i+j)=true)→zA5 i l=true
 |[],_,_=>rfl
 |s::r,i,h=>by
  have h0:=h 0 s rfl;rw[Nat.add_zero]at h0;rw[zA5,h0,Bool.true_and];exact zWf r (i+1) fun j t hj=>by have:=h (j+1) t (by simpa using hj);rwa [show i+(j+1)=i+1+j by omega]at this
theorem form_inv{base:Int}{D:List (List En)}{b:List St}(hI:Inv D b)(hR:Rests base D):zA5 0 (b.map ofSt)=true:=by
 refine zWf _ _ fun j t hj=>?_
 rw[List.getElem?_map]at hj;obtain⟨s,hs,rfl⟩:=Option.map_eq_some_iff.1 hj;rw[Nat.zero_add];obtain⟨e1,e2,e3⟩:=hI.row j s hs;obtain⟨l1,l2,l3⟩:=zCk hI hs;have hf:=zDi hI hR hs;have h1:((ofSt s).final||decide ((ofSt s).out=0))=true:=by
  show(s.final||decide (s.out=0))=true;cases hfi:s.final with
  |true=>rfl
  |false=>simp[e3.fin hfi]
 have h2:zFo (ofSt s)=0:=by
  show minF (if s.final then s.out else 9223372036854775807) (s.arcs.map zAt)=0;have hm:∀a∈s.arcs.map zAt,0≤a.out:=fun a ha=>by
   obtain⟨x,hx,rfl⟩:=List.mem_map.1 ha;exact(hf x hx).2.1
  have hm0:0≤(if s.final then s.out else 9223372036854775807:Int):=by
   cases hfi:s.final with
   |true=>rw[if_pos rfl];exact l1 hfi
   |false=>rw[if_neg (by decide)];decide
  obtain⟨q1,q2⟩:=zU4 (s.arcs.map zAt) (if s.final then s.out else 9223372036854775807);have q3:=zU3 (s.arcs.map zAt) (if s.final then s.out else 9223372036854775807) hm0 hm;rcases l3 with⟨f1,f2⟩|⟨a,ha,f2⟩
  · rw[f1,if_pos rfl,f2]at q1 q3 ⊢
    omega
  · have:=q2 (zAt a) (List.mem_map.2 ⟨a,ha,rfl⟩)
    simp only[zAt]at this;omega
 have h3:ordB j none (ofSt s).arcs=true:=by
  simp only[ofSt];refine ord_of _ _ _ ?_ (fun a ha=>?_) (fun q hq=>by cases hq)
  · rw[List.pairwise_map]
    exact e3.lab
  · obtain⟨x,hx,rfl⟩:=List.mem_map.1 ha
    obtain⟨a1,a2,a3,a4⟩:=hf x hx;simp only[zAt];exact⟨a4,by omega,by omega⟩
 unfold zI6;rw[h1,h2,h3];rfl
end Pk
namespace Pk
open Go.Proofs.YtobjpljdgieklaaGreatDoor.Nums Go.Proofs.YtobjpljdgieklaaGreatDoor.Fm Go.Proofs.YtobjpljdgieklaaGreatDoor
theorem zMe{S R:List En}(h:Sub S R){P:Int→Prop}:(∀e∈S,∀c∈e.1,P c)→∀e∈R,∀c∈e.1,P c:=by
 induction h with
 |here S=>
  intro hS e he c hc;obtain⟨x,hx,rfl⟩:=List.mem_map.1 he;exact hS x hx c hc
 |step hp _ ih=>
  intro hS;refine ih fun e he c hc=>?_
  obtain⟨x,hx,rfl⟩:=zWa _ _ (Nat.le_refl _) _ hp e he;exact hS x (zFs hx) c (List.mem_of_mem_tail hc)
theorem zNe{l:List Pr}(h:zAj l=0):∀e∈ents l,∀c∈e.1,zC3 c=true:=by
 unfold zAj at h
 split at h
 · cases h
 · have ha:=zFv l none h
   intro e he c hc;obtain⟨x,hx,rfl⟩:=List.mem_map.1 he;have hw:=(ha x hx).1;obtain⟨xs,h1,_,_,_,h4⟩:=zAw hw;unfold zAo at hw;rw[h1]at hw;simp only[Bool.and_eq_true]at hw;rw[zB0,h1]at hc;simp only[Option.getD_some]at hc;unfold zC3;rw[List.all_eq_true.1 h4 c hc,List.all_eq_true.1 hw.2 c hc];rfl
theorem zJ4{l:List Pr}(h:zAj l=0)(hl:l≠[]):∃D,Fm.Inv D (stF 25 [] (ents l)).1∧Rests (least (ents l)) D:=by
 have hG:=zEf h hl;have hD:=zC1 h;obtain⟨D,M⟩:=zCq 25 [] [] (ents l) Inv.nil hG;have hI:=M.inv;have hne:=zO1 hl;obtain⟨z0,hz0,hz0w⟩:=zCb hne;have hw0:=hD.en.wt z0 hz0;rw[hz0w]at hw0;have hsub:∀R∈D,Sub (ents l) R:=fun R hR=>(M.sub R hR).resolve_left (fun h=>by cases h)
 have hR:Rests (least (ents l)) D:=by
  have hb:∀R∈D,∃B:List En,R=zAs B∧B.length≤(ents l).length∧∀e∈B,∃x∈ents l,e.2=x.2∧e.1.length≤x.1.length:=fun R hR=>by
   obtain⟨xs,n,hx,k,hk,rfl⟩:=zP0 (hsub R hR) hD.rise hne;exact⟨_,rfl,zGt _ _,fun e he=>zGs _ _ _ he⟩
  refine⟨fun R hR=>(hI.lv R hR).1,fun R hR e he=>?_,fun R hR e he=>?_,fun R hR=>?_,fun R hR e he=>?_,fun R hR=>zMe (hsub R hR) (zNe h),hw0.1,hw0.2⟩
  · have:=zCo he
    rw[(hI.lv R hR).2]at this;exact this
  · obtain⟨B,rfl,_,h3⟩:=hb R hR
    obtain⟨x,hx,rfl⟩:=List.mem_map.1 he;obtain⟨y,hy,_,h5⟩:=h3 x hx;have:=hD.en.ln y hy;simp only;omega
  · obtain⟨B,rfl,h2,_⟩:=hb R hR
    (have h3:(zAs B).length=B.length:=by simp[zAs,zAn]);(have h4:(ents l).length=l.length:=by simp[ents]);have:=hD.len;omega
  · obtain⟨B,rfl,_,h3⟩:=hb R hR
    obtain⟨x,hx,rfl⟩:=List.mem_map.1 he;obtain⟨y,hy,h4,_⟩:=h3 x hx;(have hB:B≠[]:=fun e=>by rw[e]at hx;cases hx);obtain⟨u,hu,hu2⟩:=zCb hB;obtain⟨v,hv,h5,_⟩:=h3 u hu;have h6:=zCo hv;have h7:=hD.en.wt y hy;simp only;omega
 exact⟨D,hI,hR⟩
theorem zPf{l:List Pr}(h:zAj l=0):∀(i:Nat) (s:St),(zAl l).2[i]?=some s→(0≤s.out∧s.out≤1048576)∧∀a∈s.arcs,(0≤a.label∧a.label<1114112)∧(0≤a.out∧a.out≤1048576)∧a.to<i:=by
 intro i s hi;by_cases hl:l=[]
 · subst hl
   simp[zAl]at hi
 have hM:zAl l=(least (ents l),(stF 25 [] (ents l)).1):=by rw[zAl,if_pos ⟨h,hl⟩]
 rw[hM]at hi;obtain⟨D,hI,hR⟩:=zJ4 h hl;simp only at hi;refine⟨?_,fun a ha=>?_⟩
 · obtain⟨e1,_,e3⟩:=hI.row i s hi
   obtain⟨l1,_,_⟩:=zCk hI hi;cases hf:s.final with
   |false=>rw[e3.fin hf];omega
   |true=>
    (have hin:(([]:List Int),s.out)∈exp D s:=by unfold exp fins;rw[hf];simp);have:=hR.wt _ (List.mem_of_getElem? e1) _ hin;have:=hR.lo;have:=l1 hf;simp only at *;omega
 · obtain⟨a1,a2,a3,a4⟩:=zDi hI hR hi a ha
   unfold zC3 at a4;simp only[Bool.and_eq_true]at a4;have:=of_decide_eq_true a4.1;exact⟨⟨this.1,this.2.1⟩,⟨a2,a3⟩,a1⟩
theorem zQp{l:List Pr}:(zAl l).2.length≤102400:=by
 rw[zAl]
 split
 · rename_i h
   have hg:=zEf h.1 h.2;have h1:=(zHq 25 [] (ents l) (zGf 25 _ hg.1 hg.2.1 hg.2.2)).2.1;have h2:=zXe (zC1 h.1).en.ln;rw[zCe]at h2;have h3:=(zC1 h.1).len;simp only[List.length_nil]at h1;show(stF 25 [] (ents l)).1.length≤102400;omega
 · simp
theorem zIl{l:List Pr}(h:zAj l=0):rightB (zAl l).1 ((zAl l).2.map ofSt)=true:=by
 by_cases hl:l=[]
 · subst hl
   rfl
 have hG:=zEf h hl;have hD:=zC1 h;have hM:zAl l=(least (ents l),(stF 25 [] (ents l)).1):=by rw[zAl,if_pos ⟨h,hl⟩]
 obtain⟨D,M⟩:=zCq 25 [] [] (ents l) Inv.nil hG;obtain⟨e1,e2⟩:=zUb 25 [] [] (ents l) Inv.nil hG;rw[hM];simp only;have hI:=M.inv;have hne:=zO1 hl;obtain⟨z0,hz0,hz0w⟩:=zCb hne;have hw0:=hD.en.wt z0 hz0;rw[hz0w]at hw0;have hsub:∀R∈D,Sub (ents l) R:=fun R hR=>(M.sub R hR).resolve_left (fun h=>by cases h)
 have hR:Rests (least (ents l)) D:=by
  have hb:∀R∈D,∃B:List En,R=zAs B∧B.length≤(ents l).length∧∀e∈B,∃x∈ents l,e.2=x.2∧e.1.length≤x.1.length:=fun R hR=>by
   obtain⟨xs,n,hx,k,hk,rfl⟩:=zP0 (hsub R hR) hD.rise hne;exact⟨_,rfl,zGt _ _,fun e he=>zGs _ _ _ he⟩
  refine⟨fun R hR=>(hI.lv R hR).1,fun R hR e he=>?_,fun R hR e he=>?_,fun R hR=>?_,fun R hR e he=>?_,fun R hR=>zMe (hsub R hR) (zNe h),hw0.1,hw0.2⟩
  · have:=zCo he
    rw[(hI.lv R hR).2]at this;exact this
  · obtain⟨B,rfl,_,h3⟩:=hb R hR
    obtain⟨x,hx,rfl⟩:=List.mem_map.1 he;obtain⟨y,hy,_,h5⟩:=h3 x hx;have:=hD.en.ln y hy;simp only;omega
  · obtain⟨B,rfl,h2,_⟩:=hb R hR
    (have h3:(zAs B).length=B.length:=by simp[zAs,zAn]);(have h4:(ents l).length=l.length:=by simp[ents]);have:=hD.len;omega
  · obtain⟨B,rfl,_,h3⟩:=hb R hR
    obtain⟨x,hx,rfl⟩:=List.mem_map.1 he;obtain⟨y,hy,h4,_⟩:=h3 x hx;(have hB:B≠[]:=fun e=>by rw[e]at hx;cases hx);obtain⟨u,hu,hu2⟩:=zCb hB;obtain⟨v,hv,h5,_⟩:=h3 u hu;have h6:=zCo hv;have h7:=hD.en.wt y hy;simp only;omega
 have hrl:(refF 25 [] [] (ents l)).2=stF 25 [] (ents l):=e1;have hv:=zQa 25 [] [] (ents l) Inv.nil hG;rw[hrl]at hv;obtain⟨v1,v2,_,v4⟩:=hv.resolve_left (fun h=>by simp at h);generalize stF 25 [] (ents l)=r at *;obtain⟨b,nr⟩:=r;simp only at *;have hb0:b≠[]:=fun e=>by rw[e]at v1;simp at v1
 have hnum:numB (b.map ofSt)=true:=by
  unfold numB;have hnr:(b.map ofSt).length-1=nr:=by rw[List.length_map];omega
  have:=v4 b (List.prefix_refl _) ((b.map ofSt).length+25) (by omega);simp only[List.length_nil]at this;rw[hnr,this];rfl
 have hroot:((b.map ofSt).getD ((b.map ofSt).length-1) ⟨false,0,[]⟩).final=false:=by
  have hnr:(b.map ofSt).length-1=nr:=by rw[List.length_map];omega
  rw[hnr];obtain⟨s,hs⟩:∃s,b[nr]?=some s:=⟨b[nr]'(by omega),List.getElem?_eq_getElem _⟩;have hst:(b.map ofSt).getD nr ⟨false,0,[]⟩=ofSt s:=by rw[List.getD_eq_getElem?_getD,List.getElem?_map,hs];rfl
  rw[hst];obtain⟨q1,q2,q3⟩:=hI.row nr s hs;have hnum:=M.num;simp only at hnum;rw[hnum]at q1;obtain⟨g1,_⟩:=zLl hI.lv q3;rw[←Option.some.inj q1,zAs,zIa]at g1;simp only[ofSt];rw[←g1];obtain⟨e,r,he⟩:=List.exists_cons_of_ne_nil hne;rw[he];have:=hD.pos e (by rw[he];simp);obtain⟨x,n⟩:=e;cases x with
  |nil=>exact absurd rfl this
  |cons c t=>rfl
 have hnd:(b.map ofSt).Nodup:=by
  unfold List.Nodup;rw[List.pairwise_map,List.pairwise_iff_getElem];intro i j hi hj hij e;have h1:=(hI.row i _ (List.getElem?_eq_getElem hi)).1;have h2:=(hI.row j _ (List.getElem?_eq_getElem hj)).1;rw[ofSt_inj e]at h1;have hlt1:=(List.getElem?_eq_some_iff.1 h1).1;have hlt2:=(List.getElem?_eq_some_iff.1 h2).1;have:=zGh hI.nd hlt1 hlt2 (by rw[h1,h2]);omega
 have hbnd:bndB (least (ents l)) [] (b.map ofSt)=true:=by
  have:=zXg hI hR b.length (Nat.le_refl _);simpa using this
 have hform:=form_inv hI hR;have hmn:b.map ofSt≠[]:=by simpa using hb0
 unfold rightB;rw[if_neg hmn,hroot,hform,hbnd,hnum,decide_eq_true hnd,decide_eq_true hw0];rfl
end Pk
namespace Pk
open Go.Proofs.YtobjpljdgieklaaGreatDoor.Nums Go.Proofs.YtobjpljdgieklaaGreatDoor.Fm Go.Proofs.YtobjpljdgieklaaGreatDoor
def ud(head:List Int)(sum:Int)(R:List En):List En:=R.map fun e=>(head++e.1,sum+e.2)
theorem zL7(head:List Int)(sum:Int)(R S:List En):ud head sum (R++S)=ud head sum R++ud head sum S:=List.map_append
theorem zHn(head:List Int)(sum:Int)(R:List En):(ud head sum R).length=R.length:=by simp[ud]
theorem ud_arc(head:List Int)(sum c o:Int)(R:List En):ud head sum ((zAn o R).map (pre c))=ud (head++[c]) (sum+o) R:=by
 simp only[ud,zAn,List.map_map];refine List.map_congr_left fun e _=>?_
 simp only[Function.comp,pre,List.append_assoc,List.singleton_append,Prod.mk.injEq,true_and];omega
def udA(D:List (List En))(head:List Int)(sum:Int)(l:List Arc):List En:=l.flatMap fun a=>ud (head++[a.label]) (sum+a.out) (D[a.to]?.getD [])
def udF(head:List Int)(sum:Int)(s:St):List En:=if s.final then [(head,sum+s.out)]else []
theorem udA_snoc(D:List (List En))(head:List Int)(sum:Int)(l:List Arc)(a:Arc):udA D head sum (l++[a])=udA D head sum l++ud (head++[a.label]) (sum+a.out) (D[a.to]?.getD []):=by simp[udA]
theorem zTl(D:List (List En))(head:List Int)(sum:Int):∀l:List Arc,ud head sum (flat (outs D l))=udA D head sum l
 |[]=>rfl
 |a::l=>by
  have e:flat (outs D (a::l))=(zAn a.out (D[a.to]?.getD [])).map (pre a.label)++flat (outs D l):=by simp[flat,outs]
  rw[e,zL7,ud_arc,zTl D head sum l];simp[udA]
theorem zPw(D:List (List En))(s:St)(head:List Int)(sum:Int):ud head sum (exp D s)=udF head sum s++udA D head sum s.arcs:=by
 rw[exp,zL7,zTl];congr 1;unfold fins udF ud;cases s.final<;>simp
theorem zId(D:List (List En))(s:St):(exp D s).length=(if s.final then 1 else 0)+(s.arcs.map fun a=>(D[a.to]?.getD []).length).sum:=by
 have h:=congrArg List.length (zPw D s [] 0);rw[zHn,List.length_append]at h;rw[h];congr 1
 · unfold udF;cases s.final<;>rfl
 · unfold udA
   rw[List.length_flatMap];congr 1;exact List.map_congr_left fun a _=>zHn _ _ _
structure MW(l:List Pr)(base:Int)(b:List St)(D:List (List En)):Prop where
 inv:Inv D b
 rst:Rests base D
 ne:b≠[]
 root:D[b.length-1]?=some (zAs (ents l))
 top:ud [] base (zAs (ents l))=ents l
theorem mach_walk{l:List Pr}(h:zAj l=0)(hl:l≠[]):∃D,MW l (zAl l).1 (zAl l).2 D:=by
 have hg:=zEf h hl;obtain⟨D,M⟩:=zCq 25 [] [] (ents l) Inv.nil hg;obtain⟨D2,hI2,hR⟩:=zJ4 h hl;have e:=zOu M.inv hI2;subst e;have hrl:(stF 25 [] (ents l)).2+1=(stF 25 [] (ents l)).1.length:=zMl (f:=24) hg;have hM:zAl l=(least (ents l),(stF 25 [] (ents l)).1):=by rw[zAl,if_pos ⟨h,hl⟩]
 rw[hM];refine⟨D,M.inv,hR,fun e=>?_,?_,?_⟩
 · simp only at e
   rw[e]at hrl;simp at hrl
 · simp only
   rw[←hrl,Nat.add_sub_cancel];exact M.num
 · have:zAn (least (ents l)) (zAs (ents l))=ents l:=by rw[zDk,Int.sub_self,zCf]
   conv=>rhs;rw[←this]
   unfold ud zAn;(refine List.map_congr_left fun e _=>?_);simp only[List.nil_append,Prod.mk.injEq,true_and];omega
def prW(e:En):Pr:=(zAv e.1,e.2)
theorem zL9{x:Pr}(hx:∃xs,rs x.1.data.toList=some xs):zAv (zB0 x).1=x.1:=by
 obtain⟨xs,hx⟩:=hx;obtain⟨h1,h2⟩:=zEn hx;have e:(zB0 x).1=xs:=by rw[zB0,hx];rfl
 rw[e];have h1':allR xs=true:=h1;unfold zAv;rw[if_pos h1'];have h3:(xs.flatMap wrI).map (fun n=>UInt8.ofNat n.toNat)=x.1.data.toList:=by
  rw[←h2,List.map_flatMap];rfl
 unfold strOfNums;rw[h3]
theorem zUk{l:List Pr}(h:Wd l):(ents l).map prW=l:=by
 unfold ents;rw[List.map_map]
 conv=>rhs;rw[←List.map_id l]
 refine List.map_congr_left fun x hx=>?_
 obtain⟨xs,h1,_⟩:=h x hx;simp only[Function.comp,id];exact Prod.ext (zL9 ⟨xs,h1⟩) rfl
structure Tells(base:Int)(head:List Int)(sum:Int)(R:List En):Prop where
 ln:∀e∈R,head.length+e.1.length≤24
 wt:∀e∈R,sum+e.2≤1048576
 lo:0≤sum
 hr:∀c∈head,zC3 c=true
theorem Tells.arc{base:Int}{D:List (List En)}{b:List St}(hI:Inv D b)(hR:Rests base D){i:Nat}{s:St}(hi:b[i]?=some s){head:List Int}{sum:Int}(h:Tells base head sum (exp D s)){a:Arc}(ha:a∈s.arcs):Tells base (head++[a.label]) (sum+a.out) (D[a.to]?.getD [])∧head.length<24∧sum+a.out≤1048576:=by
 obtain⟨e1,e2,e3⟩:=hI.row i s hi;have ht:=e3.to a ha;have hg:D[a.to]?.getD []=D[a.to]:=by rw[List.getElem?_eq_getElem ht];rfl
 obtain⟨f1,f2,f3,f4⟩:=zDi hI hR hi a ha;rw[hg];have hne:=hR.ne _ (List.getElem_mem ht);obtain⟨e0,he0⟩:=List.exists_mem_of_ne_nil _ hne;have key:∀e∈D[a.to],head.length+1+e.1.length≤24∧sum+a.out+e.2≤1048576:=fun e he=>by
  have hin:=arc_in ha ht he;have h1:=h.ln _ hin;have h2:=h.wt _ hin;simp only[List.length_cons]at h1 h2;omega
 have hk0:=key e0 he0;have hn0:=hR.nn _ (List.getElem_mem ht) e0 he0;have hlo:=h.lo;refine⟨⟨fun e he=>?_,fun e he=>(key e he).2,by omega,fun c hc=>?_⟩,by omega,by omega⟩
 · have:=(key e he).1
   simp only[List.length_append,List.length_singleton];omega
 · rcases List.mem_append.1 hc with hc|hc
   · exact h.hr c hc
   · rw[List.mem_singleton.1 hc];exact f4
theorem MW.tells{l:List Pr}{base:Int}{b:List St}{D:List (List En)}(h:MW l base b D):Tells base [] base (zAs (ents l)):=by
 have hm:=List.mem_of_getElem? h.root;refine⟨fun e he=>by simpa using h.rst.ln _ hm e he,fun e he=>?_,by have:=h.rst.lo;omega,fun c hc=>by cases hc⟩;have:=h.rst.wt _ hm e he;omega
theorem zHm{xs:List Int}(h:∀c∈xs,zC3 c=true):allR xs=true:=by
 unfold allR;refine List.all_eq_true.2 fun c hc=>?_
 have:=h c hc;unfold zC3 at this;simp only[Bool.and_eq_true]at this;exact this.1
end Pk
section
open Go.RowKit Nums Fm Pk
def zD1(c:Nat):List Value:=[.int .i64 (c:Int)]
theorem rtyN:RTy 3 118 1 8:=⟨by kernel_rfl,⟨.int .i64 0,by kernel_rfl,rfl⟩,by decide,by decide⟩
structure WkAt(E:Nat)(w:World)(wb:Nat)(base:Int)(m:List RSt)(cs:List Nat):Prop where
 lt:wb<E
 ex:∃vs vw,w.heap[wb]?=some (.cells #[.int .i64 base,vs,vw] 121)∧StsAt E w vs m∧GRow E 1 w vw (cs.map zD1)
theorem WkAt.below{E:Nat}{w w':World}{wb:Nat}{base:Int}{m:List RSt}{cs:List Nat}(h:WkAt E w wb base m cs)(hb:Below E w w'):WkAt E w' wb base m cs:=by
 obtain⟨vs,vw,h1,h2,h3⟩:=h.ex;exact⟨h.lt,vs,vw,(hb.block wb h.lt).trans h1,h2.below hb,h3.below hb⟩
theorem WkAt.facts{E:Nat}{w:World}{wb:Nat}{base:Int}{m:List RSt}{cs:List Nat}(h:WkAt E w wb base m cs):∃sd sc wd wc,w.cell? ⟨wb,0,none⟩=some (.int .i64 base)∧w.cell? ⟨wb,1,none⟩=some (.slice sd m.length sc)∧w.cell? ⟨wb,2,none⟩=some (.slice wd cs.length wc)∧StsAt E w (.slice sd m.length sc) m∧GRow E 1 w (.slice wd cs.length wc) (cs.map zD1):=by
 obtain⟨vs,vw,h1,h2,h3⟩:=h.ex;obtain⟨sd,sc,rfl⟩:=h2.shape;obtain⟨wd,wc,rfl⟩:=h3.shape;rw[List.length_map]at h1 h3;exact⟨sd,sc,wd,wc,by simp[World.cell?,h1],by simp[World.cell?,h1],by simp[World.cell?,h1],h2,h3⟩
theorem GRow.num{E:Nat}{w:World}{ad:Option Addr}{n cap:Nat}{cs:List Nat}(h:GRow E 1 w (.slice ad n cap) (cs.map zD1)){k c:Nat}(hc:cs[k]?=some c):∃g off,ad=some ⟨g,off,none⟩∧g<E∧w.cell? ⟨g,off+k,none⟩=some (.int .i64 (c:Int)):=by
 obtain⟨ad',cap',hv,hx⟩:=h.ex;simp only[Value.slice.injEq]at hv;have hk:=(List.getElem?_eq_some_iff.1 hc).1;obtain⟨g,off,rfl,hg,hx⟩:=hx (by rw[List.length_map];omega);have e:(cs.map zD1)[k]?=some (zD1 c):=by rw[List.getElem?_map,hc];rfl
 have:=hx k 0 _ _ e rfl;rw[Nat.mul_one,Nat.add_zero]at this;exact⟨g,off,hv.1,hg,this⟩
set_option maxHeartbeats 1000000 in
theorem zHk(E:Nat)(w:World)(wb:Nat)(base:Int)(m:List RSt)(cs:List Nat)(h:WkAt E w wb base m cs):
 Calls Tryz.prog 70 #[.pointer (some ⟨wb,0,none⟩)] w fun e w'=>e = .returned (.int .i64 ((m.length:Int)-1))∧w'=w:=by
 obtain⟨sd,sc,wd,wc,c0,c1,c2,hS,_⟩:=h.facts;have hl:=hS.len;go_enter Tryz.func70,Tryz.ntmps70;go_wp2;go_ret;exact⟨by go_num,rfl⟩
set_option maxHeartbeats 1000000 in
theorem Base_any(E:Nat)(w:World)(wb:Nat)(base:Int)(m:List RSt)(cs:List Nat)(h:WkAt E w wb base m cs):
 Calls Tryz.prog 75 #[.pointer (some ⟨wb,0,none⟩)] w fun e w'=>e = .returned (.int .i64 base)∧w'=w:=by
 obtain⟨sd,sc,wd,wc,c0,c1,c2,hS,_⟩:=h.facts;go_enter Tryz.func75,Tryz.ntmps75;go_wp2;go_ret;exact⟨rfl,rfl⟩
end
