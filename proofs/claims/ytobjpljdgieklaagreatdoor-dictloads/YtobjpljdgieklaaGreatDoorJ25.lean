import Derived.Test.YtobjpljdgieklaaGreatDoorJ23
set_option maxRecDepth 100000
set_option maxHeartbeats 8000000
namespace Go.Proofs.YtobjpljdgieklaaGreatDoor
namespace Fm
open Go.Proofs.YtobjpljdgieklaaGreatDoor.Nums
def zIg:List Int→List En→List En
 |[],S=>S
 |c::t,S=>zIg t (after c S)
theorem zS7(c:Int)(S:List En):after c (zAi S)=after c S:=by
 cases S with
 |nil=>rfl
 |cons e r=>
  obtain⟨x,n⟩:=e;cases x with
  |nil=>simp[zAi,after]
  |cons d t=>rfl
theorem zEh{c:Int}:∀(gs:List (Int×List En)),(∀p∈gs,p.1≠c)→after c (flat gs)=[]
 |[],_=>rfl
 |p::r,h=>by
  have e:flat (p::r)=p.2.map (pre p.1)++flat r:=rfl;rw[e,zBl,zEf,if_neg (h p (by simp)),zEh r fun x hx=>h x (by simp[hx])];rfl
theorem zJu{c:Int}:∀(gs:List (Int×List En)) (p:Int×List En),gs.Pairwise (fun a b=>a.1<b.1)→p∈gs→p.1=c→after c (flat gs)=p.2
 |[],_,_,h,_=>by cases h
 |x::r,p,hp,h,hc=>by
  obtain⟨h1,h2⟩:=List.pairwise_cons.1 hp;have e:flat (x::r)=x.2.map (pre x.1)++flat r:=rfl;rw[e,zBl,zEf];rcases List.mem_cons.1 h with rfl|h
  · rw[if_pos hc,zEh r fun y hy=>by have:=h1 y hy;omega,List.append_nil]
  · have:=h1 p h
    rw[if_neg (by omega),zJu r p h2 h hc];rfl
theorem zMt{S:List En}(hS:Rise S){p:Int×List En}(hp:p∈grp (zAi S)):after p.1 S=p.2:=by
 obtain⟨h1,h2⟩:=zBi hS;have hf:=zEp _ (zAi S) (Nat.le_refl _) h2;have hl:=(zEn _ (zAi S) (Nat.le_refl _) h2 h1).1;rw[←zS7,←hf];exact zJu _ p hl hp rfl
theorem zJ7{S R:List En}(hs:Sub S R):Rise S→S≠[]→∃xs n,(xs,n)∈S∧∃k,k≤xs.length∧R=zAd (zIg (xs.take k) S):=by
 induction hs with
 |here S=>
  intro _ hne;obtain⟨e,he⟩:=List.exists_mem_of_ne_nil _ hne;exact⟨e.1,e.2,he,0,Nat.zero_le _,rfl⟩
 |@step S R p hp hsub ih=>
  intro hr _;have hpa:=zMt hr hp;obtain⟨h1,h2⟩:=zBi hr;obtain⟨xs,n,hm,k,hk,hR⟩:=ih (zG7 _ (zAi S) (Nat.le_refl _) h2 h1 p hp) (zJk _ _ (Nat.le_refl _) p hp);rw[←hpa]at hm hR;exact⟨p.1::xs,n,zEg hm,k+1,by simpa using hk,by rw[List.take_succ_cons];exact hR⟩
theorem zEu:∀(p:List Int) (S:List En) (e:En),e∈zIg p S→∃x∈S,e.2=x.2∧e.1.length≤x.1.length
 |[],S,e,h=>⟨e,h,rfl,Nat.le_refl _⟩
 |c::t,S,e,h=>by
  obtain⟨x,hx,h1,h2⟩:=zEu t (after c S) e h;refine⟨pre c x,zEg hx,h1,?_⟩;simp only[pre,List.length_cons];omega
theorem zEv:∀(p:List Int) (S:List En),(zIg p S).length≤S.length
 |[],_=>Nat.le_refl _
 |c::t,S=>by
  have h1:=zEv t (after c S);have h2:∀l:List En,(after c l).length≤l.length:=by
   intro l
   induction l with
   |nil=>exact Nat.le_refl _
   |cons e r ih=>
    rw[after]
    split
    · simp only[List.length_cons];omega
    · simp only[List.length_cons];omega
  have:=h2 S;rw[zIg];omega
theorem same_len{α:Type}[DecidableEq α]:∀(l m:List α),l.Nodup→m.Nodup→(∀x,x∈l↔x∈m)→l.length=m.length:=by
 have le:∀(l m:List α),l.Nodup→(∀x∈l,x∈m)→l.length≤m.length:=by
  intro l
  induction l with
  |nil=>intro m _ _;exact Nat.zero_le _
  |cons x r ih=>
   intro m hn hs;obtain⟨h1,h2⟩:=List.nodup_cons.1 hn;have hx:=hs x (by simp);(have:=ih (m.erase x) h2 fun y hy=>(List.mem_erase_of_ne (fun e:y=x=>h1 (by rw[←e];exact hy))).2 (hs y (by simp[hy])));have hl:=List.length_erase_of_mem hx;have hp:0<m.length:=List.length_pos_of_mem hx;simp only[List.length_cons];omega
 intro l m hl hm h;exact Nat.le_antisymm (le l m hl fun x hx=>(h x).1 hx) (le m l hm fun x hx=>(h x).2 hx)
end Fm
namespace Fm
open Go.Proofs.YtobjpljdgieklaaGreatDoor.Nums
def refA(st:List (List En)→List St→List En→List (List En)×List St×Nat):List (List En)→List St→List (Int×List En)→List (List En)×List St×List Arc
 |D,b,[]=>(D,b,[])
 |D,b,(c,G)::r=>((refA st (st D b G).1 (st D b G).2.1 r).1,(refA st (st D b G).1 (st D b G).2.1 r).2.1,⟨c,least G,(st D b G).2.2⟩::(refA st (st D b G).1 (st D b G).2.1 r).2.2)
def refF:Nat→List (List En)→List St→List En→List (List En)×List St×Nat
 |0,D,b,_=>(D,b,0)
 |f+1,D,b,S=>if zAd S∈D then (D,b,D.idxOf (zAd S))else
  ((refA (refF f) D b (grp (zAi (zAd S)))).1++[zAd S],(refA (refF f) D b (grp (zAi (zAd S)))).2.1++[⟨zCv S,zCh (zAd S),(refA (refF f) D b (grp (zAi (zAd S)))).2.2⟩],(refA (refF f) D b (grp (zAi (zAd S)))).2.1.length)
theorem zK0{D D2:List (List En)}{b:List St}(h:Inv D b)(h2:Inv D2 b):D=D2:=by
 have key:∀n i:Nat,i<n→D[i]?=D2[i]?:=by
  intro n
  induction n with
  |zero=>intro i hi;omega
  |succ n ih=>
   intro i hi;by_cases hib:i<b.length
   · obtain⟨s,hs⟩:∃s,b[i]?=some s:=⟨b[i],List.getElem?_eq_getElem hib⟩
     obtain⟨e1,t1,_⟩:=h.row i s hs;obtain⟨e2,_,_⟩:=h2.row i s hs;rw[e1,e2];unfold exp outs
     have:(s.arcs.map fun a=>(a.label,zAh a.out (D[a.to]?.getD [])))=s.arcs.map fun a=>(a.label,zAh a.out (D2[a.to]?.getD [])):=
      List.map_congr_left fun a ha=>by rw[ih a.to (by have:=t1 a ha;omega)]
     rw[this]
   · rw[List.getElem?_eq_none (by have:=h.len;omega),List.getElem?_eq_none (by have:=h2.len;omega)]
 exact List.ext_getElem? fun i=>key (i+1) i (Nat.lt_succ_self i)
theorem inv_push{D:List (List En)}{b:List St}{s:St}{L:List En}(h:Inv D b)(hcan:Canon D s)(hexp:exp D s=L)(hn:L∉D)(hL:L≠[]∧least L=0):Inv (D++[L]) (b++[s]):=by
 have hlen:=h.len;have hpre:D<+:D++[L]:=List.prefix_append _ _;refine⟨by simp[hlen],fun i t hi=>?_,?_,fun R hR=>?_⟩
 · by_cases hib:i<b.length
   · rw[List.getElem?_append_left hib]at hi
     obtain⟨e1,e2,ct⟩:=h.row i t hi;refine⟨?_,e2,ct.pre hpre⟩;rw[zKk hpre (by omega),e1,zH8 hpre ct.to]
   · rw[List.getElem?_append_right (by omega)]at hi
     cases hi0:i-b.length with
     |zero=>
      rw[hi0]at hi;simp only[List.getElem?_cons_zero,Option.some.injEq]at hi;subst hi;refine⟨?_,fun a ha=>by have:=hcan.to a ha;omega,hcan.pre hpre⟩;rw[zH8 hpre hcan.to,hexp,List.getElem?_append_right (by omega),hlen,hi0];rfl
     |succ j=>rw[hi0]at hi;simp at hi
 · rw[List.nodup_append]
   exact⟨h.nd,by simp,fun a ha c hc=>by rw[List.mem_singleton.1 hc];exact fun e=>hn (e▸ha)⟩
 · rcases List.mem_append.1 hR with h1|h1
   · exact h.lv R h1
   · rw[List.mem_singleton.1 h1];exact hL
theorem zEb{S:List En}{e:En}(h:e∈zAi S):e∈S:=by
 cases S with
 |nil=>exact h
 |cons y r=>
  obtain⟨a,n⟩:=y;cases a with
  |nil=>exact .tail _ h
  |cons c t=>exact h
theorem zV9:∀(m:Nat) (l:List En),l.length≤m→∀p∈grp l,∀e∈p.2,∃x∈l,e=tl x
 |_,[],_,_,hp,_,_=>by cases hp
 |0,y::r,h,_,_,_,_=>by simp at h
 |m+1,y::r,hl,p,hp,e,he=>by
  rw[zC1]at hp;rcases List.mem_cons.1 hp with rfl|hp
  · obtain⟨x,hx,rfl⟩:=List.mem_map.1 he
    exact⟨x,List.mem_of_mem_take hx,rfl⟩
  · obtain⟨x,hx,h2⟩:=zV9 m ((y::r).drop (lead (hd y) r+1)) (by rw[List.length_drop];simp at hl ⊢;omega) p hp e he
    exact⟨x,List.mem_of_mem_drop hx,h2⟩
theorem zTr{T R:List En}(hs:Sub T R){k:Nat}:(∀e∈T,e.1.length≤k)→∀e∈R,e.1.length≤k:=by
 induction hs with
 |here T=>
  intro h e he;obtain⟨x,hx,rfl⟩:=List.mem_map.1 he;exact h x hx
 |@step T' R' p hp hsub ih=>
  intro h;refine ih fun e he=>?_
  obtain⟨x,hx,rfl⟩:=zV9 _ _ (Nat.le_refl _) p hp e he;have:=h x (zEb hx);simp only[tl,List.length_tail];omega
theorem zU9:∀T:List En,T≠[]→∃e∈T,∀x∈T,x.1.length≤e.1.length
 |[],h=>absurd rfl h
 |y::r,_=>by
  by_cases hr:r=[]
  · subst hr;exact⟨y,by simp,fun x hx=>by rw[List.mem_singleton]at hx;subst hx;exact Nat.le_refl _⟩
  · obtain⟨e,he,h⟩:=zU9 r hr
    by_cases hl:e.1.length≤y.1.length
    · exact⟨y,by simp,fun x hx=>by
       rcases List.mem_cons.1 hx with rfl|hx
       · exact Nat.le_refl _
       · exact Nat.le_trans (h x hx) hl⟩
    · exact⟨e,by simp[he],fun x hx=>by
       rcases List.mem_cons.1 hx with rfl|hx
       · omega
       · exact h x hx⟩
theorem not_own{S:List En}(h0:S≠[])(hr:Rise S){p:Int×List En}(hp:p∈grp (zAi S)):¬Sub p.2 (zAd S):=fun h=>by
 obtain⟨_,hr2⟩:=zBi hr;obtain⟨e,he,hmax⟩:=zU9 S h0;obtain⟨g0,hg0⟩:∃g0,g0∈p.2:=List.exists_mem_of_ne_nil _ (zJk _ _ (Nat.le_refl _) p hp);have hpos:0<e.1.length:=by
  have:=hmax _ (zEb (zE6 hr2 hp hg0));simp only[pre,List.length_cons]at this;omega
 have hk:=zTr h (k:=e.1.length-1) (fun x hx=>by
  have:=hmax _ (zEb (zE6 hr2 hp hx));simp only[pre,List.length_cons]at this;omega) (e.1,e.2 + -least S) (List.mem_map.2 ⟨e,he,rfl⟩)
 simp only at hk;omega
theorem zOg(n:Int){S:List En}(h:S≠[]):zCh (zAh n S)=zCh S:=by
 cases S with
 |nil=>exact absurd rfl h
 |cons e r=>
  have hs:=zB6 n h;obtain⟨x,m⟩:=e;cases x with
  |nil=>
   show m+n-least (zAh n (([],m)::r))=m-least (([],m)::r);omega
  |cons c t=>rfl
theorem zR5(f:Nat)(D:List (List En))(b:List St)(n:Int){S:List En}(h:S≠[]):refF f D b (zAh n S)=refF f D b S:=by
 cases f with
 |zero=>rfl
 |succ f=>rw[refF,refF,zE3 n h,zH7]
theorem zUb{f:Nat}{base:Int}(ih:∀(D:List (List En)) (b:List St) (S:List En),Inv D b→Good f S→(refF f D b S).2=stF f b S∧Inv (refF f D b S).1 (stF f b S).1):
 ∀(gs:List (Int×List En)) (D:List (List En)) (b:List St),Inv D b→(∀p∈gs,Good f p.2)→(refA (refF f) D b (gs.map fun p=>(p.1,zAh (-base) p.2))).2=arF (stF f) base b gs∧Inv (refA (refF f) D b (gs.map fun p=>(p.1,zAh (-base) p.2))).1 (arF (stF f) base b gs).1
 |[],D,b,hI,_=>⟨rfl,hI⟩
 |(c,G)::r,D,b,hI,hG=>by
  have hGG:=hG (c,G) (by simp);obtain⟨e1,i1⟩:=ih D b G hI hGG;obtain⟨e2,i2⟩:=zUb ih r (refF f D b G).1 (stF f b G).1 i1 (fun p hp=>hG p (by simp[hp]));have hne:G≠[]:=hGG.1;have hl:least (zAh (-base) G)=least G-base:=by rw[zB6 _ hne];omega
  simp only[List.map_cons,refA,arF,zR5 f D b (-base) hne,e1,hl];refine⟨?_,i2⟩;rw[←e2]
theorem zL9:∀(f:Nat) (D:List (List En)) (b:List St) (S:List En),Inv D b→Good f S→(refF f D b S).2=stF f b S∧Inv (refF f D b S).1 (stF f b S).1
 |0,_,_,S,_,h=>by
  obtain⟨h0,_,h2⟩:=h;cases S with
  |nil=>exact absurd rfl h0
  |cons e r=>exact absurd (h2 e (by simp)) (by omega)
 |f+1,D,b,S,hI,hG=>by
  by_cases hm:zAd S∈D
  · obtain⟨D',M⟩:=zCe (f+1) D b S hI hG
    obtain⟨e1,e2⟩:=M.old (D.idxOf (zAd S)) (by rw[List.getElem?_eq_getElem (List.idxOf_lt_length_of_mem hm),List.getElem_idxOf]);rw[e1,refF,if_pos hm];exact⟨rfl,hI⟩
  · obtain⟨hr1,hr2⟩:=zBi hG.2.1
    have hgg:=zCu hG;have hfl:=zEp _ (zAi S) (Nat.le_refl _) hr2;have hlab:=(zEn _ (zAi S) (Nat.le_refl _) hr2 hr1).1;obtain⟨D1,M⟩:=zHg (base:=least S) (zCe f) (grp (zAi S)) D b hI hgg;obtain⟨e1,i1⟩:=zUb (base:=least S) (zL9 f) (grp (zAi S)) D b hI hgg;(have hgr:grp (zAi (zAd S))=(grp (zAi S)).map fun p=>(p.1,zAh (-least S) p.2):=by rw[zAd,zD1,zH3]);have ho:zCh (zAd S)=zCh S:=zOg _ hG.1;rw[refF,if_neg hm,stF,hgr,ho];rw[zK0 i1 M.inv,e1];generalize arF (stF f) (least S) b (grp (zAi S))=q at M;obtain⟨b1,arcs⟩:=q;simp only at M ⊢;have hcan:Canon D1 ⟨zCv S,zCh S,arcs⟩:=by
     refine⟨zHt M.outs hlab,M.to,fun h=>?_⟩;cases S with
     |nil=>rfl
     |cons e r=>
      obtain⟨x,n⟩:=e;cases x with
      |nil=>cases h
      |cons c t=>rfl
    have hexp:exp D1 ⟨zCv S,zCh S,arcs⟩=zAd S:=by
     rw[exp,zAd,zGm S arcs,M.outs,←zGl,hfl]
    have hn1:zAd S∉D1:=fun h=>by
     rcases M.sub _ h with h|⟨p,hp,h⟩
     · exact hm h
     · exact not_own hG.1 hG.2.1 hp h
    have hnot:(⟨zCv S,zCh S,arcs⟩:St)∉b1:=fun h=>by
     obtain⟨j,hj⟩:=List.mem_iff_getElem?.1 h;have h1:=(M.inv.row j _ hj).1;rw[hexp]at h1;exact hn1 (List.mem_of_getElem? h1)
    rw[zDe,if_neg hnot];exact⟨rfl,inv_push M.inv hcan hexp hn1 ⟨zG4.2 hG.1,zE4 hG.1⟩⟩
end Fm
namespace Pk
open Go.Proofs.YtobjpljdgieklaaGreatDoor.Nums Go.Proofs.YtobjpljdgieklaaGreatDoor.Fm
def zAr(a:Arc):RArc:=⟨a.label,a.out,a.to⟩
def ofSt(s:St):RSt:=⟨s.final,s.out,s.arcs.map zAr⟩
theorem zUo{a c:Arc}(h:zAr a=zAr c):a=c:=by
 cases a;cases c;simp only[zAr,RArc.mk.injEq]at h;obtain⟨h1,h2,h3⟩:=h;simp only[Arc.mk.injEq];exact⟨h1,h2,by omega⟩
theorem zJa:∀{l m:List Arc},l.map zAr=m.map zAr→l=m
 |[],[],_=>rfl
 |[],_::_,h=>by simp at h
 |_::_,[],h=>by simp at h
 |a::l,c::m,h=>by
  simp only[List.map_cons,List.cons.injEq]at h;rw[zUo h.1,zJa h.2]
theorem ofSt_inj{s t:St}(h:ofSt s=ofSt t):s=t:=by
 cases s;cases t;simp only[ofSt,RSt.mk.injEq]at h;obtain⟨h1,h2,h3⟩:=h;rw[h1,h2,zJa h3]
theorem zP8 {f : Nat} (ih : ∀ (D : List (List En)) (b : List St) (S : List En), Inv D b → Fm.Good f S →
      ((refF f D b S).2.1=b∧(refF f D b S).2.2<b.length)∨((refF f D b S).2.2+1=(refF f D b S).2.1.length∧b.length≤(refF f D b S).2.2∧b<+:(refF f D b S).2.1∧∀M,(refF f D b S).2.1<+:M→∀F,f≤F→vis8 (M.map ofSt) F (refF f D b S).2.2 b.length=some (refF f D b S).2.1.length)):
 ∀(gs:List (Int×List En)) (D:List (List En)) (b:List St),Inv D b→(∀p∈gs,Fm.Good f p.2)→b<+:(refA (refF f) D b gs).2.1∧∀M,(refA (refF f) D b gs).2.1<+:M→∀F,f≤F→zDl (vis8 (M.map ofSt) F) ((refA (refF f) D b gs).2.2.map zAr) b.length=some (refA (refF f) D b gs).2.1.length
 |[],D,b,_,_=>⟨List.prefix_refl _,fun M _ F _=>rfl⟩
 |(c,G)::r,D,b,hI,hG=>by
  have hGG:=hG (c,G) (by simp);obtain⟨e1,e2⟩:=zL9 f D b G hI hGG;have e2':Inv (refF f D b G).1 (refF f D b G).2.1:=by rw[e1];exact e2
  obtain⟨p1,p2⟩:=zP8 ih r (refF f D b G).1 (refF f D b G).2.1 e2' (fun p hp=>hG p (by simp[hp]));rw[refA];simp only[List.map_cons];rcases ih D b G hI hGG with⟨h1,h2⟩|⟨h1,h2,h3,h4⟩
  · rw[h1]at p1 p2 ⊢
    refine⟨p1,fun M hM F hF=>?_⟩;rw[zDl,if_neg (by simp only[zAr];omega)];exact p2 M hM F hF
  · refine⟨h3.trans p1,fun M hM F hF=>?_⟩
    rw[zDl,if_pos (by simp only[zAr];omega)];have:=h4 M (p1.trans hM) F hF;simp only[zAr,Int.toNat_natCast];rw[this];exact p2 M hM F hF
theorem zP7 : ∀ (f : Nat) (D : List (List En)) (b : List St) (S : List En), Inv D b → Fm.Good f S →
      ((refF f D b S).2.1=b∧(refF f D b S).2.2<b.length)∨((refF f D b S).2.2+1=(refF f D b S).2.1.length∧b.length≤(refF f D b S).2.2∧b<+:(refF f D b S).2.1∧∀M,(refF f D b S).2.1<+:M→∀F,f≤F→vis8 (M.map ofSt) F (refF f D b S).2.2 b.length=some (refF f D b S).2.1.length)
 |0,_,_,S,_,h=>by
  obtain⟨h0,_,h2⟩:=h;cases S with
  |nil=>exact absurd rfl h0
  |cons e r=>exact absurd (h2 e (by simp)) (by omega)
 |f+1,D,b,S,hI,hG=>by
  rw[refF];by_cases hm:zAd S∈D
  · rw[if_pos hm]
    refine .inl ⟨rfl,?_⟩;have:=List.idxOf_lt_length_of_mem hm;simp only;rw[←hI.len];exact this
  · rw[if_neg hm]
    have hGl:Fm.Good (f+1) (zAd S):=⟨zG4.2 hG.1,by unfold Rise zAd zAh;rw[List.pairwise_map];exact hG.2.1,fun e he=>by
     obtain⟨x,hx,rfl⟩:=List.mem_map.1 he;exact hG.2.2 x hx⟩
    obtain⟨p1,p2⟩:=zP8 (zP7 f) (grp (zAi (zAd S))) D b hI (zCu hGl);generalize refA (refF f) D b (grp (zAi (zAd S)))=q at p1 p2;obtain⟨D1,b1,acc⟩:=q;simp only at p1 p2 ⊢;refine .inr ⟨by simp,p1.length_le,p1.trans (List.prefix_append _ _),fun M hM F hF=>?_⟩;obtain⟨F',rfl⟩:∃F',F=F'+1:=⟨F-1,by omega⟩;have hn:(M.map ofSt).getD b1.length ⟨false,0,[]⟩=ofSt ⟨zCv S,zCh (zAd S),acc⟩:=by
     obtain⟨t,rfl⟩:=hM;simp[List.getD_eq_getElem?_getD]
    rw[vis8,hn];have:=p2 M ((List.prefix_append _ _).trans hM) F' (by omega);show Option.bind (zDl (vis8 (M.map ofSt) F') (acc.map zAr) b.length) _=_;rw[this];simp
def mxL:List En→Int
 |[]=>0
 |e::r=>max (e.1.length:Int) (mxL r)
def mxW:List En→Int
 |[]=>0
 |e::r=>max e.2 (mxW r)
theorem mxL_nn:∀l:List En,0≤mxL l
 |[]=>Int.le_refl _
 |e::r=>by rw[mxL];have:=mxL_nn r;omega
theorem mxW_nn:∀l:List En,0≤mxW l
 |[]=>Int.le_refl _
 |e::r=>by rw[mxW];have:=mxW_nn r;omega
theorem zJd:∀a b:List En,mxL (a++b)=max (mxL a) (mxL b)
 |[],b=>by have:=mxL_nn b;simp only[List.nil_append,mxL];omega
 |e::r,b=>by rw[List.cons_append,mxL,mxL,zJd r b];omega
theorem zJc:∀a b:List En,mxW (a++b)=max (mxW a) (mxW b)
 |[],b=>by have:=mxW_nn b;simp only[List.nil_append,mxW];omega
 |e::r,b=>by rw[List.cons_append,mxW,mxW,zJc r b];omega
theorem mxL_le:∀(l:List En) (n:Int),0≤n→(∀e∈l,(e.1.length:Int)≤n)→mxL l≤n
 |[],n,h,_=>h
 |e::r,n,h,hl=>by
  rw[mxL];have:=mxL_le r n h fun x hx=>hl x (by simp[hx])
  have:=hl e (by simp);omega
theorem mxW_le:∀(l:List En) (n:Int),0≤n→(∀e∈l,e.2≤n)→mxW l≤n
 |[],n,h,_=>h
 |e::r,n,h,hl=>by
  rw[mxW];have:=mxW_le r n h fun x hx=>hl x (by simp[hx])
  have:=hl e (by simp);omega
theorem zUu(c n:Int):∀l:List En,l≠[]→mxL ((zAh n l).map (pre c))=mxL l+1
 |[e],_=>by
  simp only[zAh,pre,List.map_cons,List.map_nil,mxL,List.length_cons];omega
 |e::x::r,_=>by
  have ih:=zUu c n (x::r) (by simp);have e1:(zAh n (e::x::r)).map (pre c)=(c::e.1,e.2+n)::(zAh n (x::r)).map (pre c):=rfl;have e2:mxL (e::x::r)=max (e.1.length:Int) (mxL (x::r)):=rfl;rw[e1,mxL,ih,e2];simp only[List.length_cons];omega
theorem zUt(c n:Int)(hn:0≤n):∀l:List En,l≠[]→(∀e∈l,0≤e.2)→mxW ((zAh n l).map (pre c))=n+mxW l
 |[e],_,h=>by
  have:=h e (by simp);simp only[zAh,pre,List.map_cons,List.map_nil,mxW];omega
 |e::x::r,_,h=>by
  have ih:=zUt c n hn (x::r) (by simp) (fun y hy=>h y (by simp only[List.mem_cons]at hy ⊢;exact .inr hy));have e1:(zAh n (e::x::r)).map (pre c)=(c::e.1,e.2+n)::(zAh n (x::r)).map (pre c):=rfl;have e2:mxW (e::x::r)=max e.2 (mxW (x::r)):=rfl;rw[e1,mxW,ih,e2];simp only;omega
def zEw(R:List En):Reach:=⟨mxL R,R.length,mxW R⟩
theorem zRd(D:List (List En))(known:List Reach)(hk:∀(j:Nat) (R:List En),D[j]?=some R→known[j]?=some (zEw R))(hD:∀R∈D,R≠[]∧∀e∈R,0≤e.2):
 ∀(l:List Arc) (T:List En),(∀a∈l,a.to<D.length∧0≤a.out∧a.out≤1048576)→(l.map zAr).foldl (zE0 known) (zEw T)=zEw (T++flat (outs D l))
 |[],T,_=>by simp[outs,flat]
 |a::l,T,h=>by
  obtain⟨h1,h2,h3⟩:=h a (by simp);have hR:D[a.to]?=some D[a.to]:=List.getElem?_eq_getElem h1;obtain⟨g1,g2⟩:=hD _ (List.getElem_mem h1);have hkn:=hk _ _ hR;have hstep:zE0 known (zEw T) (zAr a)=zEw (T++(zAh a.out D[a.to]).map (pre a.label)):=by
   unfold zE0 zEw;simp only[zAr,Int.toNat_natCast,List.getD_eq_getElem?_getD,hkn,Option.getD_some,zEw];rw[zJd,zJc,zUu _ _ _ g1,zUt _ _ h2 _ g1 g2];simp only[Reach.mk.injEq,List.length_append,List.length_map];refine⟨trivial,?_,?_⟩
   · simp[zAh]
   · congr 1
     omega
  rw[List.map_cons,List.foldl_cons,hstep,zRd D known hk hD l _ (fun x hx=>h x (by simp[hx]))];congr 1;simp only[outs,flat,List.map_cons,List.flatMap_cons,hR,Option.getD_some,List.append_assoc]
theorem beh_exp{D:List (List En)}{known:List Reach}(hk:∀(j:Nat) (R:List En),D[j]?=some R→known[j]?=some (zEw R))(hD:∀R∈D,R≠[]∧∀e∈R,0≤e.2){s:St}(h:∀a∈s.arcs,a.to<D.length∧0≤a.out∧a.out≤1048576)(ho:s.final=true→0≤s.out):behR (ofSt s) known=zEw (exp D s):=by
 unfold behR exp;have e1:(if (ofSt s).final then (⟨0,1,(ofSt s).out⟩:Reach)else ⟨0,0,0⟩)=zEw (fins s):=by
  show(if s.final then (⟨0,1,s.out⟩:Reach)else ⟨0,0,0⟩)=_;unfold fins zEw;cases hf:s.final with
  |false=>rfl
  |true=>
   have:=ho hf;simp only[if_true,mxL,mxW,List.length_nil,List.length_singleton,Reach.mk.injEq];omega
 rw[e1];exact zRd D known hk hD s.arcs (fins s) h
theorem exp_take{D:List (List En)}{s:St}{i:Nat}(h:∀a∈s.arcs,a.to<i)(hi:i≤D.length):exp D s=exp (D.take i) s:=
 zH8 (List.take_prefix i D) (fun a ha=>by rw[List.length_take];have:=h a ha;omega)
structure Rests(base:Int)(D:List (List En)):Prop where
 ne:∀R∈D,R≠[]
 nn:∀R∈D,∀e∈R,0≤e.2
 ln:∀R∈D,∀e∈R,e.1.length≤24
 few:∀R∈D,R.length≤4096
 wt:∀R∈D,∀e∈R,e.2≤1048576-base
 rn:∀R∈D,∀e∈R,∀c∈e.1,zC7 c=true
 lo:1≤base
 hi:base≤1048576
theorem arc_in{D:List (List En)}{s:St}{a:Arc}(ha:a∈s.arcs)(ht:a.to<D.length){e:En}(he:e∈D[a.to]):(a.label::e.1,e.2+a.out)∈exp D s:=by
 unfold exp;refine List.mem_append.2 (.inr ?_);unfold flat outs;refine List.mem_flatMap.2 ⟨(a.label,zAh a.out (D[a.to]?.getD [])),List.mem_map.2 ⟨a,ha,rfl⟩,?_⟩;rw[List.getElem?_eq_getElem ht];exact List.mem_map.2 ⟨(e.1,e.2+a.out),List.mem_map.2 ⟨e,he,rfl⟩,rfl⟩
theorem zDk{base:Int}{D:List (List En)}{b:List St}(hI:Inv D b)(hR:Rests base D){i:Nat}{s:St}(hi:b[i]?=some s):∀a∈s.arcs,a.to<i∧0≤a.out∧a.out≤1048576∧zC7 a.label=true:=fun a ha=>by
 obtain⟨e1,e2,e3⟩:=hI.row i s hi;have ht:=e3.to a ha;have hne:=hR.ne _ (List.getElem_mem ht);obtain⟨e,he⟩:=List.exists_mem_of_ne_nil _ hne;have hin:=arc_in ha ht he;have hD:=List.mem_of_getElem? e1;have h1:=hR.wt _ hD _ hin;have h2:=hR.rn _ hD _ hin a.label (by simp);have h3:=hR.nn _ (List.getElem_mem ht) e he;have h4:=hR.lo;obtain⟨_,h5,_⟩:=zCp hI hi;have:=h5 a ha;simp only at h1;exact⟨e2 a ha,by omega,by omega,h2⟩
theorem zXb{base:Int}{D:List (List En)}{b:List St}(hI:Inv D b)(hR:Rests base D):∀(n:Nat),n≤b.length→bndB base ((D.take (b.length-n)).map zEw) ((b.drop (b.length-n)).map ofSt)=true
 |0,_=>by simp[bndB]
 |n+1,hn=>by
  have ih:=zXb hI hR n (by omega);obtain⟨i,hi⟩:∃i,i=b.length-(n+1):=⟨_,rfl⟩;have hi1:b.length-n=i+1:=by omega
  rw[hi1]at ih;rw[←hi];have hil:i<b.length:=by omega
  obtain⟨s,hs⟩:∃s,b[i]?=some s:=⟨b[i],List.getElem?_eq_getElem hil⟩;obtain⟨e1,e2,e3⟩:=hI.row i s hs;have hdr:b.drop i=s::b.drop (i+1):=by rw[List.drop_eq_getElem_cons hil];congr 1;rw[List.getElem?_eq_getElem hil]at hs;exact Option.some.inj hs
  have hiD:i≤D.length:=by have:=hI.len;omega
  obtain⟨l1,l2,l3⟩:=zCp hI hs;have hbe:behR (ofSt s) ((D.take i).map zEw)=zEw (exp D s):=by
   rw[exp_take e2 hiD];refine beh_exp (fun j R hj=>by rw[List.getElem?_map,hj];rfl) (fun R hR'=>?_) (fun a ha=>?_) l1
   · have:=List.mem_of_mem_take hR'
     exact⟨hR.ne R this,hR.nn R this⟩
   · obtain⟨a1,a2,a3,_⟩:=zDk hI hR hs a ha
     exact⟨by rw[List.length_take];omega,a2,a3⟩
  have hD:=List.mem_of_getElem? e1;have htk:D.take (i+1)=D.take i++[exp D s]:=by rw[List.take_add_one,e1];rfl
  rw[hdr,List.map_cons,bndB,hbe];have hok:okR base (zEw (exp D s))=true:=by
   unfold okR zEw;have h1:=mxL_le (exp D s) 24 (by omega) (fun e he=>by have:=hR.ln _ hD e he;omega);have h2:=hR.few _ hD;have h3:=mxW_le (exp D s) (1048576-base) (by have:=hR.hi;omega) (fun e he=>hR.wt _ hD e he);simp only[decide_eq_true_eq];omega
  rw[hok,Bool.true_and];rw[htk,List.map_append]at ih;exact ih
theorem zU0:∀(l:List RArc) (m:Int),minF m l≤m∧∀a∈l,minF m l≤a.out
 |[],m=>⟨Int.le_refl _,fun a ha=>by cases ha⟩
 |a::r,m=>by
  obtain⟨h1,h2⟩:=zU0 r (min m a.out);rw[minF];refine⟨by omega,fun x hx=>?_⟩;rcases List.mem_cons.1 hx with rfl|hx
  · omega
  · exact h2 x hx
theorem zUz:∀(l:List RArc) (m:Int),0≤m→(∀a∈l,0≤a.out)→0≤minF m l
 |[],m,h,_=>h
 |a::r,m,h,hl=>by
  rw[minF];have:=hl a (by simp);exact zUz r _ (by omega) fun x hx=>hl x (by simp[hx])
theorem ord_of:∀(l:List RArc) (n:Int) (p:Option Int),l.Pairwise (fun a c=>a.label<c.label)→(∀a∈l,zC7 a.label=true∧0≤a.to∧a.to<n)→(∀q,p=some q→∀a∈l,q<a.label)→ordB n p l=true
 |[],_,_,_,_,_=>rfl
 |a::r,n,p,hp,ha,hq=>by
  obtain⟨h1,h2⟩:=List.pairwise_cons.1 hp;obtain⟨g1,g2,g3⟩:=ha a (by simp);have hany:(p.any fun q=>decide (a.label≤q))=false:=by
   cases p with
   |none=>rfl
   |some q=>
    have:=hq q rfl a (by simp);simp only[Option.any_some,decide_eq_false_iff_not];omega
  rw[ordB,hany,g1,decide_eq_true ⟨g2,g3⟩];simp only[Bool.not_false,Bool.true_and];exact ord_of r n _ h2 (fun x hx=>ha x (by simp[hx])) (fun q hq' x hx=>by cases hq';exact h1 x hx)
theorem zWe:∀(l:List RSt) (i:Nat),(∀(j:Nat) (s:RSt),l[j]?=some s→zIt s (i+j)=true)→zBg i l=true
 |[],_,_=>rfl
 |s::r,i,h=>by
  have h0:=h 0 s rfl;rw[Nat.add_zero]at h0;rw[zBg,h0,Bool.true_and];exact zWe r (i+1) fun j t hj=>by have:=h (j+1) t (by simpa using hj);rwa [show i+(j+1)=i+1+j by omega]at this
theorem form_inv{base:Int}{D:List (List En)}{b:List St}(hI:Inv D b)(hR:Rests base D):zBg 0 (b.map ofSt)=true:=by
 refine zWe _ _ fun j t hj=>?_
 rw[List.getElem?_map]at hj;obtain⟨s,hs,rfl⟩:=Option.map_eq_some_iff.1 hj;rw[Nat.zero_add];obtain⟨e1,e2,e3⟩:=hI.row j s hs;obtain⟨l1,l2,l3⟩:=zCp hI hs;have hf:=zDk hI hR hs;have h1:((ofSt s).final||decide ((ofSt s).out=0))=true:=by
  show(s.final||decide (s.out=0))=true;cases hfi:s.final with
  |true=>rfl
  |false=>simp[e3.fin hfi]
 have h2:zGt (ofSt s)=0:=by
  show minF (if s.final then s.out else 9223372036854775807) (s.arcs.map zAr)=0;have hm:∀a∈s.arcs.map zAr,0≤a.out:=fun a ha=>by
   obtain⟨x,hx,rfl⟩:=List.mem_map.1 ha;exact(hf x hx).2.1
  have hm0:0≤(if s.final then s.out else 9223372036854775807:Int):=by
   cases hfi:s.final with
   |true=>rw[if_pos rfl];exact l1 hfi
   |false=>rw[if_neg (by decide)];decide
  obtain⟨q1,q2⟩:=zU0 (s.arcs.map zAr) (if s.final then s.out else 9223372036854775807);have q3:=zUz (s.arcs.map zAr) (if s.final then s.out else 9223372036854775807) hm0 hm;rcases l3 with⟨f1,f2⟩|⟨a,ha,f2⟩
  · rw[f1,if_pos rfl,f2]at q1 q3 ⊢
    omega
  · have:=q2 (zAr a) (List.mem_map.2 ⟨a,ha,rfl⟩)
    simp only[zAr]at this;omega
 have h3:ordB j none (ofSt s).arcs=true:=by
  simp only[ofSt];refine ord_of _ _ _ ?_ (fun a ha=>?_) (fun q hq=>by cases hq)
  · rw[List.pairwise_map]
    exact e3.lab
  · obtain⟨x,hx,rfl⟩:=List.mem_map.1 ha
    obtain⟨a1,a2,a3,a4⟩:=hf x hx;simp only[zAr];exact⟨a4,by omega,by omega⟩
 unfold zIt;rw[h1,h2,h3];rfl
end Pk
