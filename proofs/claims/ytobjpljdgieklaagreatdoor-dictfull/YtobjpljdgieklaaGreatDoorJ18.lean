import Derived.Test.YtobjpljdgieklaaGreatDoorJ15
import Derived.Test.YtobjpljdgieklaaGreatDoorJ10
set_option maxRecDepth 100000
namespace Go.Proofs.YtobjpljdgieklaaGreatDoor
namespace Fm
open Go.Proofs.YtobjpljdgieklaaGreatDoor.Nums
def refA(st:List (List En)→List St→List En→List (List En)×List St×Nat):List (List En)→List St→List (Int×List En)→List (List En)×List St×List Arc
 |D,b,[]=>(D,b,[])
 |D,b,(c,G)::r=>((refA st (st D b G).1 (st D b G).2.1 r).1,(refA st (st D b G).1 (st D b G).2.1 r).2.1,⟨c,least G,(st D b G).2.2⟩::(refA st (st D b G).1 (st D b G).2.1 r).2.2)
def refF:Nat→List (List En)→List St→List En→List (List En)×List St×Nat
 |0,D,b,_=>(D,b,0)
 |f+1,D,b,S=>if zAr S∈D then (D,b,D.idxOf (zAr S))else
  ((refA (refF f) D b (grp (zAk (zAr S)))).1++[zAr S],(refA (refF f) D b (grp (zAk (zAr S)))).2.1++[⟨zDg S,zC1 (zAr S),(refA (refF f) D b (grp (zAk (zAr S)))).2.2⟩],(refA (refF f) D b (grp (zAk (zAr S)))).2.1.length)
theorem zOw{D D2:List (List En)}{b:List St}(h:Inv D b)(h2:Inv D2 b):D=D2:=by
 have key:∀n i:Nat,i<n→D[i]?=D2[i]?:=by
  intro n
  induction n with
  |zero=>intro i hi;omega
  |succ n ih=>
   intro i hi;by_cases hib:i<b.length
   · obtain⟨s,hs⟩:∃s,b[i]?=some s:=⟨b[i],List.getElem?_eq_getElem hib⟩
     obtain⟨e1,t1,_⟩:=h.row i s hs;obtain⟨e2,_,_⟩:=h2.row i s hs;rw[e1,e2];unfold exp outs
     have:(s.arcs.map fun a=>(a.label,zAm a.out (D[a.to]?.getD [])))=s.arcs.map fun a=>(a.label,zAm a.out (D2[a.to]?.getD [])):=
      List.map_congr_left fun a ha=>by rw[ih a.to (by have:=t1 a ha;omega)]
     rw[this]
   · rw[List.getElem?_eq_none (by have:=h.len;omega),List.getElem?_eq_none (by have:=h2.len;omega)]
 exact List.ext_getElem? fun i=>key (i+1) i (Nat.lt_succ_self i)
theorem inv_push{D:List (List En)}{b:List St}{s:St}{L:List En}(h:Inv D b)(hcan:Canon D s)(hexp:exp D s=L)(hn:L∉D)(hL:L≠[]∧least L=0):Inv (D++[L]) (b++[s]):=by
 have hlen:=h.len;have hpre:D<+:D++[L]:=List.prefix_append _ _;refine⟨by simp[hlen],fun i t hi=>?_,?_,fun R hR=>?_⟩
 · by_cases hib:i<b.length
   · rw[List.getElem?_append_left hib]at hi
     obtain⟨e1,e2,ct⟩:=h.row i t hi;refine⟨?_,e2,ct.pre hpre⟩;rw[zKy hpre (by omega),e1,zIg hpre ct.to]
   · rw[List.getElem?_append_right (by omega)]at hi
     cases hi0:i-b.length with
     |zero=>
      rw[hi0]at hi;simp only[List.getElem?_cons_zero,Option.some.injEq]at hi;subst hi;refine⟨?_,fun a ha=>by have:=hcan.to a ha;omega,hcan.pre hpre⟩;rw[zIg hpre hcan.to,hexp,List.getElem?_append_right (by omega),hlen,hi0];rfl
     |succ j=>rw[hi0]at hi;simp at hi
 · rw[List.nodup_append]
   exact⟨h.nd,by simp,fun a ha c hc=>by rw[List.mem_singleton.1 hc];exact fun e=>hn (e▸ha)⟩
 · rcases List.mem_append.1 hR with h1|h1
   · exact h.lv R h1
   · rw[List.mem_singleton.1 h1];exact hL
theorem zFy{S:List En}{e:En}(h:e∈zAk S):e∈S:=by
 cases S with
 |nil=>exact h
 |cons y r=>
  obtain⟨a,n⟩:=y;cases a with
  |nil=>exact .tail _ h
  |cons c t=>exact h
theorem zWq:∀(m:Nat) (l:List En),l.length≤m→∀p∈grp l,∀e∈p.2,∃x∈l,e=tl x
 |_,[],_,_,hp,_,_=>by cases hp
 |0,y::r,h,_,_,_,_=>by simp at h
 |m+1,y::r,hl,p,hp,e,he=>by
  rw[zCw]at hp;rcases List.mem_cons.1 hp with rfl|hp
  · obtain⟨x,hx,rfl⟩:=List.mem_map.1 he
    exact⟨x,List.mem_of_mem_take hx,rfl⟩
  · obtain⟨x,hx,h2⟩:=zWq m ((y::r).drop (lead (hd y) r+1)) (by rw[List.length_drop];simp at hl ⊢;omega) p hp e he
    exact⟨x,List.mem_of_mem_drop hx,h2⟩
theorem zT8{T R:List En}(hs:Sub T R){k:Nat}:(∀e∈T,e.1.length≤k)→∀e∈R,e.1.length≤k:=by
 induction hs with
 |here T=>
  intro h e he;obtain⟨x,hx,rfl⟩:=List.mem_map.1 he;exact h x hx
 |@step T' R' p hp hsub ih=>
  intro h;refine ih fun e he=>?_
  obtain⟨x,hx,rfl⟩:=zWq _ _ (Nat.le_refl _) p hp e he;have:=h x (zFy hx);simp only[tl,List.length_tail];omega
theorem zVs:∀T:List En,T≠[]→∃e∈T,∀x∈T,x.1.length≤e.1.length
 |[],h=>absurd rfl h
 |y::r,_=>by
  by_cases hr:r=[]
  · subst hr;exact⟨y,by simp,fun x hx=>by rw[List.mem_singleton]at hx;subst hx;exact Nat.le_refl _⟩
  · obtain⟨e,he,h⟩:=zVs r hr
    by_cases hl:e.1.length≤y.1.length
    · exact⟨y,by simp,fun x hx=>by
       rcases List.mem_cons.1 hx with rfl|hx
       · exact Nat.le_refl _
       · exact Nat.le_trans (h x hx) hl⟩
    · exact⟨e,by simp[he],fun x hx=>by
       rcases List.mem_cons.1 hx with rfl|hx
       · omega
       · exact h x hx⟩
theorem not_own{S:List En}(h0:S≠[])(hr:Rise S){p:Int×List En}(hp:p∈grp (zAk S)):¬Sub p.2 (zAr S):=fun h=>by
 obtain⟨_,hr2⟩:=zB7 hr;obtain⟨e,he,hmax⟩:=zVs S h0;obtain⟨g0,hg0⟩:∃g0,g0∈p.2:=List.exists_mem_of_ne_nil _ (zJw _ _ (Nat.le_refl _) p hp);have hpos:0<e.1.length:=by
  have:=hmax _ (zFy (zGu hr2 hp hg0));simp only[pre,List.length_cons]at this;omega
 have hk:=zT8 h (k:=e.1.length-1) (fun x hx=>by
  have:=hmax _ (zFy (zGu hr2 hp hx));simp only[pre,List.length_cons]at this;omega) (e.1,e.2 + -least S) (List.mem_map.2 ⟨e,he,rfl⟩)
 simp only at hk;omega
theorem zOp(n:Int){S:List En}(h:S≠[]):zC1 (zAm n S)=zC1 S:=by
 cases S with
 |nil=>exact absurd rfl h
 |cons e r=>
  have hs:=zB2 n h;obtain⟨x,m⟩:=e;cases x with
  |nil=>
   show m+n-least (zAm n (([],m)::r))=m-least (([],m)::r);omega
  |cons c t=>rfl
theorem zSf(f:Nat)(D:List (List En))(b:List St)(n:Int){S:List En}(h:S≠[]):refF f D b (zAm n S)=refF f D b S:=by
 cases f with
 |zero=>rfl
 |succ f=>rw[refF,refF,zE7 n h,zIe]
theorem zUt{f:Nat}{base:Int}(ih:∀(D:List (List En)) (b:List St) (S:List En),Inv D b→Good f S→(refF f D b S).2=stF f b S∧Inv (refF f D b S).1 (stF f b S).1):
 ∀(gs:List (Int×List En)) (D:List (List En)) (b:List St),Inv D b→(∀p∈gs,Good f p.2)→(refA (refF f) D b (gs.map fun p=>(p.1,zAm (-base) p.2))).2=arF (stF f) base b gs∧Inv (refA (refF f) D b (gs.map fun p=>(p.1,zAm (-base) p.2))).1 (arF (stF f) base b gs).1
 |[],D,b,hI,_=>⟨rfl,hI⟩
 |(c,G)::r,D,b,hI,hG=>by
  have hGG:=hG (c,G) (by simp);obtain⟨e1,i1⟩:=ih D b G hI hGG;obtain⟨e2,i2⟩:=zUt ih r (refF f D b G).1 (stF f b G).1 i1 (fun p hp=>hG p (by simp[hp]));have hne:G≠[]:=hGG.1;have hl:least (zAm (-base) G)=least G-base:=by rw[zB2 _ hne];omega
  simp only[List.map_cons,refA,arF,zSf f D b (-base) hne,e1,hl];refine⟨?_,i2⟩;rw[←e2]
theorem zUs:∀(f:Nat) (D:List (List En)) (b:List St) (S:List En),Inv D b→Good f S→(refF f D b S).2=stF f b S∧Inv (refF f D b S).1 (stF f b S).1
 |0,_,_,S,_,h=>by
  obtain⟨h0,_,h2⟩:=h;cases S with
  |nil=>exact absurd rfl h0
  |cons e r=>exact absurd (h2 e (by simp)) (by omega)
 |f+1,D,b,S,hI,hG=>by
  by_cases hm:zAr S∈D
  · obtain⟨D',M⟩:=zCr (f+1) D b S hI hG
    obtain⟨e1,e2⟩:=M.old (D.idxOf (zAr S)) (by rw[List.getElem?_eq_getElem (List.idxOf_lt_length_of_mem hm),List.getElem_idxOf]);rw[e1,refF,if_pos hm];exact⟨rfl,hI⟩
  · obtain⟨hr1,hr2⟩:=zB7 hG.2.1
    have hgg:=zDr hG;have hfl:=zEv _ (zAk S) (Nat.le_refl _) hr2;have hlab:=(zEt _ (zAk S) (Nat.le_refl _) hr2 hr1).1;obtain⟨D1,M⟩:=zHo (base:=least S) (zCr f) (grp (zAk S)) D b hI hgg;obtain⟨e1,i1⟩:=zUt (base:=least S) (zUs f) (grp (zAk S)) D b hI hgg;(have hgr:grp (zAk (zAr S))=(grp (zAk S)).map fun p=>(p.1,zAm (-least S) p.2):=by rw[zAr,zG4,zIc]);have ho:zC1 (zAr S)=zC1 S:=zOp _ hG.1;rw[refF,if_neg hm,stF,hgr,ho];rw[zOw i1 M.inv,e1];generalize arF (stF f) (least S) b (grp (zAk S))=q at M;obtain⟨b1,arcs⟩:=q;simp only at M ⊢;have hcan:Canon D1 ⟨zDg S,zC1 S,arcs⟩:=by
     refine⟨zH3 M.outs hlab,M.to,fun h=>?_⟩;cases S with
     |nil=>rfl
     |cons e r=>
      obtain⟨x,n⟩:=e;cases x with
      |nil=>cases h
      |cons c t=>rfl
    have hexp:exp D1 ⟨zDg S,zC1 S,arcs⟩=zAr S:=by
     rw[exp,zAr,zGw S arcs,M.outs,←zGv,hfl]
    have hn1:zAr S∉D1:=fun h=>by
     rcases M.sub _ h with h|⟨p,hp,h⟩
     · exact hm h
     · exact not_own hG.1 hG.2.1 hp h
    have hnot:(⟨zDg S,zC1 S,arcs⟩:St)∉b1:=fun h=>by
     obtain⟨j,hj⟩:=List.mem_iff_getElem?.1 h;have h1:=(M.inv.row j _ hj).1;rw[hexp]at h1;exact hn1 (List.mem_of_getElem? h1)
    rw[zDc,if_neg hnot];exact⟨rfl,inv_push M.inv hcan hexp hn1 ⟨zK9.2 hG.1,zH9 hG.1⟩⟩
end Fm
namespace Pk
def cmpI(a b:Int):Int:=if a<b then -1 else if b<a then 1 else 0
def orI:List Int→Int
 |[]=>0
 |c::r=>if c≠0 then c else orI r
def cmpA(x y:RArc):Int:=orI [cmpI x.label y.label,cmpI x.out y.out,cmpI x.to y.to]
def cmpL:List RArc→List RArc→Int
 |[],[]=>0
 |[],_::_ => -1
 |_::_,[]=>1
 |x::xs,y::ys=>if cmpA x y≠0 then cmpA x y else cmpL xs ys
def zBx(s:RSt):Int:=2*s.arcs.length+(if s.final then 1 else 0)
def cmpH(s t:RSt):Int:=orI [cmpI (zBx s) (zBx t),cmpI s.out t.out]
def cmpS(s t:RSt):Int:=if cmpH s t≠0 then cmpH s t else cmpL s.arcs t.arcs
structure Ord3{α:Type}(c:α→α→Int):Prop where
 eq:∀x y,c x y=0↔x=y
 anti:∀x y,c x y<0↔0<c y x
 tr:∀x y z,c x y<0→c y z<0→c x z<0
theorem zF3:Ord3 cmpI:=by
 refine⟨fun x y=>?_,fun x y=>?_,fun x y z=>?_⟩<;>unfold cmpI
 · repeat' split
   all_goals omega
 · repeat' split
   all_goals omega
 · repeat' split
   all_goals omega
theorem Ord3.then{α β γ:Type}{c:α→α→Int}{d:β→β→Int}(hc:Ord3 c)(hd:Ord3 d)(p:γ→α)(q:γ→β)(inj:∀x y,p x=p y→q x=q y→x=y):Ord3 fun x y:γ=>if c (p x) (p y)≠0 then c (p x) (p y)else d (q x) (q y):=by
 have c0:∀x y,c x y=0↔c y x=0:=fun x y=>by rw[hc.eq,hc.eq];exact eq_comm
 refine⟨fun x y=>?_,fun x y=>?_,fun x y z=>?_⟩
 · split
   · rename_i h
     exact⟨fun e=>absurd e h,fun e=>absurd ((hc.eq _ _).2 (congrArg p e)) h⟩
   · rename_i h
     have h':c (p x) (p y)=0:=Decidable.byContradiction h;exact⟨fun e=>inj x y ((hc.eq _ _).1 h') ((hd.eq _ _).1 e),fun e=>(hd.eq _ _).2 (congrArg q e)⟩
 · by_cases h:c (p x) (p y)=0
   · rw[if_neg (fun hn=>hn h),if_neg (fun hn=>hn ((c0 _ _).1 h))]
     exact hd.anti _ _
   · rw[if_pos h,if_pos (fun hn=>h ((c0 _ _).2 hn))]
     exact hc.anti _ _
 · by_cases h1:c (p x) (p y)=0
   · have e1:=(hc.eq _ _).1 h1
     rw[if_neg (fun hn=>hn h1)];by_cases h2:c (p y) (p z)=0
     · have e2:=(hc.eq _ _).1 h2
       rw[if_neg (fun hn=>hn h2),e1,if_neg (fun hn=>hn h2)];exact hd.tr _ _ _
     · rw[if_pos h2,e1,if_pos h2]
       exact fun _ h=>h
   · rw[if_pos h1]
     by_cases h2:c (p y) (p z)=0
     · have e2:=(hc.eq _ _).1 h2
       rw[if_neg (fun hn=>hn h2),←e2,if_pos h1];exact fun h _=>h
     · rw[if_pos h2]
       intro g1 g2;have:=hc.tr _ _ _ g1 g2;rw[if_pos (by omega)];exact this
theorem cmpA_ord:Ord3 cmpA:=by
 have h:=Ord3.then (γ:=RArc) zF3 (Ord3.then (γ:=Int×Int) zF3 zF3 (·.1) (·.2) (fun x y h1 h2=>Prod.ext h1 h2)) (·.label) (fun a=>(a.out,a.to)) (fun x y h1 h2=>by
  cases x;cases y;simp only[Prod.mk.injEq]at h1 h2;rw[h1,h2.1,h2.2])
 have e:cmpA=fun x y:RArc=>if cmpI x.label y.label≠0 then cmpI x.label y.label else if cmpI x.out y.out≠0 then cmpI x.out y.out else cmpI x.to y.to:=by
  funext x y;unfold cmpA orI orI orI orI;by_cases h1:cmpI x.label y.label=0
  · by_cases h2:cmpI x.out y.out=0
    · by_cases h3:cmpI x.to y.to=0<;>simp[h1,h2,h3]
    · simp[h1,h2]
  · simp[h1]
 rw[e];exact h
theorem zXi:∀x y,cmpL x y=0↔x=y
 |[],[]=>by simp[cmpL]
 |[],_::_=>by simp[cmpL]
 |_::_,[]=>by simp[cmpL]
 |x::xs,y::ys=>by
  rw[cmpL];by_cases h:cmpA x y=0
  · rw[if_neg (fun hn=>hn h),zXi xs ys,(cmpA_ord.eq _ _).1 h]
    simp
  · rw[if_pos h]
    exact⟨fun e=>absurd e h,fun e=>absurd ((cmpA_ord.eq _ _).2 (List.cons.inj e).1) h⟩
theorem zNk:∀x y,cmpL x y<0↔0<cmpL y x
 |[],[]=>by simp[cmpL]
 |[],_::_=>by simp[cmpL]
 |_::_,[]=>by simp[cmpL]
 |x::xs,y::ys=>by
  rw[cmpL,cmpL];have c0:cmpA x y=0↔cmpA y x=0:=by rw[cmpA_ord.eq,cmpA_ord.eq];exact eq_comm
  by_cases h:cmpA x y=0
  · rw[if_neg (fun hn=>hn h),if_neg (fun hn=>hn (c0.1 h))]
    exact zNk xs ys
  · rw[if_pos h,if_pos (fun hn=>h (c0.2 hn))]
    exact cmpA_ord.anti _ _
theorem zXg:∀x y z,cmpL x y<0→cmpL y z<0→cmpL x z<0
 |[],[],_,h,_=>by simp[cmpL]at h
 |[],_::_,[],_,h=>by simp[cmpL]at h
 |[],_::_,_::_,_,_=>by simp[cmpL]
 |_::_,[],_,h,_=>by simp[cmpL]at h
 |_::_,_::_,[],_,h=>by simp[cmpL]at h
 |x::xs,y::ys,z::zs,h1,h2=>by
  rw[cmpL]at h1 h2 ⊢;by_cases g1:cmpA x y=0
  · have e1:=(cmpA_ord.eq _ _).1 g1
    rw[if_neg (fun hn=>hn g1)]at h1;subst e1;by_cases g2:cmpA x z=0
    · rw[if_neg (fun hn=>hn g2)]at h2 ⊢
      exact zXg xs ys zs h1 h2
    · rw[if_pos g2]at h2 ⊢
      exact h2
  · rw[if_pos g1]at h1
    by_cases g2:cmpA y z=0
    · have e2:=(cmpA_ord.eq _ _).1 g2
      subst e2;rw[if_pos g1];exact h1
    · rw[if_pos g2]at h2
      have:=cmpA_ord.tr _ _ _ h1 h2;rw[if_pos (by omega)];exact this
theorem cmpL_ord:Ord3 cmpL:=⟨zXi,zNk,zXg⟩
theorem cmpS_ord:Ord3 cmpS:=by
 have hh:Ord3 fun x y:Int×Int=>if cmpI x.1 y.1≠0 then cmpI x.1 y.1 else cmpI x.2 y.2:=Ord3.then zF3 zF3 (·.1) (·.2) (fun x y h1 h2=>Prod.ext h1 h2)
 have h:=Ord3.then (γ:=RSt) hh cmpL_ord (fun s=>(zBx s,s.out)) (·.arcs) (fun x y h1 h2=>by
  simp only[Prod.mk.injEq]at h1;obtain⟨h3,h4⟩:=h1;unfold zBx at h3;rw[h2]at h3;cases x with
  |mk f1 o1 a1=>
   cases y with
   |mk f2 o2 a2=>
    simp only at h2 h3 h4;subst h2 h4;cases f1<;>cases f2<;>simp at h3 ⊢<;>omega)
 have e:cmpS=fun s t:RSt=>if (if cmpI (zBx s) (zBx t)≠0 then cmpI (zBx s) (zBx t)else cmpI s.out t.out)≠0 then (if cmpI (zBx s) (zBx t)≠0 then cmpI (zBx s) (zBx t)else cmpI s.out t.out)else cmpL s.arcs t.arcs:=by
  funext s t;have eh:cmpH s t=if cmpI (zBx s) (zBx t)≠0 then cmpI (zBx s) (zBx t)else cmpI s.out t.out:=by
   unfold cmpH orI orI orI;by_cases h1:cmpI (zBx s) (zBx t)=0
   · by_cases h2:cmpI s.out t.out=0<;>simp[h1,h2]
   · simp[h1]
  unfold cmpS;rw[eh]
 rw[e];exact h
end Pk
section
namespace Mq
open Go.RowKit Go.Shelf Go.Lib Go.Sort Pm
set_option maxRecDepth 1000000
theorem lt_of_cf{x y:Pr}(h:zAa x.1 y.1=true):cfP x y<0:=by unfold cfP;rw[if_pos h];decide
theorem not_lt_of_cf{x y:Pr}(h:zAa x.1 y.1=false):¬cfP x y<0:=by
 unfold cfP;rw[h];cases zAa y.1 x.1<;>decide
theorem all_lt{R:List Pr}{u x:Pr}(h:Up zAa (R++[u]))(hu:zAa u.1 x.1=true):∀v∈R++[u],zAa v.1 x.1=true:=fun v hv=>
 up_lt lessB_sto (L:=[]) h (List.pairwise_singleton ..) hu v hv x (List.mem_singleton.2 rfl)
theorem all_ge{R:List Pr}{u x:Pr}(h:Up zAa (u::R))(hu:zAa u.1 x.1=false):∀v∈u::R,zAa v.1 x.1=false:=fun v hv=>
 up_le lessB_sto (L:=[]) (List.pairwise_singleton ..) h hu x (by simp) v hv
theorem all_le{R:List Pr}{u y:Pr}(h:Up zAa (R++[u]))(hu:zAa y.1 u.1=false):∀v∈R++[u],zAa y.1 v.1=false:=fun v hv=>
 up_le lessB_sto (R:=[]) h (List.pairwise_singleton ..) hu v hv y (List.mem_singleton.2 rfl)
theorem all_gt{R:List Pr}{u y:Pr}(h:Up zAa (u::R))(hu:zAa y.1 u.1=true):∀v∈u::R,zAa y.1 v.1=true:=fun v hv=>
 up_lt lessB_sto (R:=[]) (List.pairwise_singleton ..) h hu y (by simp) v hv
theorem up_left{a b:List Pr}(h:Up zAa (a++b)):Up zAa a:=(List.pairwise_append.1 h).1
theorem up_right{a b:List Pr}(h:Up zAa (a++b)):Up zAa b:=(List.pairwise_append.1 h).2.1
theorem part_at(P L S:List Pr)(i:Nat)(h1:P.length≤i)(h2:i≤P.length+L.length):∃L1 L2,L=L1++L2∧P.length+L1.length=i ∧
 (0<L1.length→∃a u,L1=a++[u]∧(P++(L++S)).toArray[i-1]! = u)∧(0<L2.length→∃u b,L2=u::b∧(P++(L++S)).toArray[i]! = u):=by
 obtain⟨L1,L2,rfl,hl⟩:=zDy L (i-P.length) (by omega);refine⟨L1,L2,rfl,by omega,fun h=>?_,fun h=>?_⟩
 · obtain⟨a,u,rfl⟩:=zHj L1 h
   exact⟨a,u,rfl,Pm.get_at _ (P++a) (L2++S) u (i-1) (by simp) (by simp at hl ⊢;omega)⟩
 · cases L2 with
   |nil=>simp at h
   |cons u b=>exact⟨u,b,rfl,Pm.get_at _ (P++L1) (b++S) u i (by simp) (by simp at hl ⊢;omega)⟩
end Mq
end
