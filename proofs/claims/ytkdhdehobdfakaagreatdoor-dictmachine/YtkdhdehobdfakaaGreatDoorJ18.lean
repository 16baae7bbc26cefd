import Derived.Test.YtkdhdehobdfakaaGreatDoorJ17
set_option maxRecDepth 100000
set_option maxHeartbeats 8000000
namespace Go.Proofs.YtkdhdehobdfakaaGreatDoor
section
open Nums Fm
namespace Fm
def wt(xs:List Int)(S:List En):Option Int:=(S.find? fun e=>e.1==xs).map (·.2)
def after(c:Int):List En→List En
 |[]=>[]
 |e::r=>if e.1.head?=some c then tl e::after c r else after c r
theorem zGg(xs:List Int)(e:En)(r:List En):wt xs (e::r)=if e.1=xs then some e.2 else wt xs r:=by
 unfold wt;rw[List.find?_cons];by_cases h:e.1=xs
 · rw[if_pos h,beq_iff_eq.2 h];rfl
 · rw[if_neg h,beq_eq_false_iff_ne.2 h]
theorem zQb(c:Int)(t:List Int):∀S:List En,wt (c::t) S=wt t (after c S)
 |[]=>rfl
 |e::r=>by
  obtain⟨x,n⟩:=e;rw[zGg,after,zQb c t r];cases x with
  |nil=>simp
  |cons d y=>
   by_cases h:d=c
   · subst h
     have e1:tl (d::y,n)=(y,n):=rfl;simp only[List.head?_cons,if_true,e1];rw[zGg];simp only[List.cons.injEq,true_and]
   · have h1:¬(d::y=c::t):=fun e=>h (List.cons.inj e).1
     (have h2:¬(some d=some c):=fun e=>h (Option.some.inj e));simp only[List.head?_cons,h1,h2,if_false]
theorem zBk(c:Int):∀(S T:List En),after c (S++T)=after c S++after c T
 |[],_=>rfl
 |e::r,T=>by
  rw[List.cons_append,after,after,zBk c r T]
  split<;>rfl
theorem zEl(c d:Int):∀G:List En,after c (G.map (pre d))=if d=c then G else []
 |[]=>by simp[after]
 |e::r=>by
  rw[List.map_cons,after,zEl c d r];by_cases h:d=c
  · subst h;simp[pre,tl]
  · simp[pre,h]
theorem zFh(n:Int)(c:Int):∀S:List En,after c (zAi n S)=zAi n (after c S)
 |[]=>rfl
 |e::r=>by
  rw[zAi,List.map_cons,←zAi,after,after,zFh n c r];by_cases h:e.1.head?=some c
  · rw[if_pos h,if_pos h];rfl
  · rw[if_neg h,if_neg h]
theorem zEm{c:Int}:∀{S:List En} {e:En},e∈after c S→pre c e∈S
 |[],e,h=>by cases h
 |x::r,e,h=>by
  rw[after]at h
  split at h
  · rename_i hx
    rcases List.mem_cons.1 h with rfl|h
    · have:pre c (tl x)=x:=by
       obtain⟨y,n⟩:=x;cases y with
       |nil=>cases hx
       |cons d t=>
        simp only[List.head?_cons,Option.some.injEq]at hx;subst hx;rfl
      rw[this];simp
    · exact .tail _ (zEm h)
  · exact .tail _ (zEm h)
theorem zGz{D:List (List En)}{c:Int}:∀(l:List Arc),(∀a∈l,a.label≠c)→after c (flat (outs D l))=[]
 |[],_=>rfl
 |a::r,h=>by
  have e:flat (outs D (a::r))=(zAi a.out (D[a.to]?.getD [])).map (pre a.label)++flat (outs D r):=rfl;rw[e,zBk,zEl,if_neg (h a (by simp)),zGz r fun x hx=>h x (by simp[hx])];rfl
theorem zKc{D:List (List En)}{c:Int}:∀(l:List Arc) (a:Arc),l.Pairwise (fun a b=>a.label<b.label)→a∈l→a.label=c→after c (flat (outs D l))=zAi a.out (D[a.to]?.getD [])
 |[],_,_,h,_=>by cases h
 |x::r,a,hp,h,hc=>by
  obtain⟨h1,h2⟩:=List.pairwise_cons.1 hp;have e:flat (outs D (x::r))=(zAi x.out (D[x.to]?.getD [])).map (pre x.label)++flat (outs D r):=rfl;rw[e,zBk,zEl];rcases List.mem_cons.1 h with rfl|h
  · rw[if_pos hc,zGz r fun y hy=>by have:=h1 y hy;omega,List.append_nil]
  · have:=h1 a h
    rw[if_neg (by omega),zKc r a h2 h hc];rfl
theorem zT5(c:Int)(s:St):after c (fins s)=[]:=by
 unfold fins
 split
 · simp[after]
 · rfl
theorem zNn{D:List (List En)}{s:St}(c:Int):after c (exp D s)=after c (flat (outs D s.arcs)):=by
 rw[exp,zBk,zT5,List.nil_append]
theorem wt_zero{D:List (List En)}{s:St}(n:Int):wt [] (zAi n (exp D s))=if s.final then some (n+s.out)else none:=by
 have hne:∀T:List En,(∀e∈T,e.1≠[])→wt [] T=none:=by
  intro T
  induction T with
  |nil=>intro _;rfl
  |cons e r ih=>
   intro h;rw[zGg,if_neg (h e (by simp)),ih fun x hx=>h x (by simp[hx])]
 have h2:∀e∈zAi n (flat (outs D s.arcs)),e.1≠[]:=fun e he=>by
  obtain⟨x,hx,rfl⟩:=List.mem_map.1 he;exact zXi x hx
 have e:zAi n (exp D s)=zAi n (fins s)++zAi n (flat (outs D s.arcs)):=by rw[exp,zAi,List.map_append];rfl
 rw[e,fins]
 split
 · simp only[zAi,List.map_cons,List.map_nil,List.cons_append,List.nil_append]
   rw[zGg,if_pos rfl,Int.add_comm]
 · exact hne _ h2
def Stands(D:List (List En))(b:List St)(S:List En)(xs:List Int)(i:Nat)(at' sum:Int):Prop:=
 (at' = -1∧wt xs S=none)∨∃(n:Nat) (R:List En),at'=n∧n<b.length∧D[n]?=some R∧wt xs S=wt (xs.drop i) (zAi sum R)∧∀e∈zAi sum R,1≤e.2∧e.2≤1048576
theorem Stands.sum{D:List (List En)}{b:List St}(hI:Inv D b){S:List En}{xs:List Int}{i n:Nat}{sum:Int}(h:Stands D b S xs i n sum):1≤sum∧sum≤1048576:=by
 rcases h with⟨h,_⟩|⟨m,R,h1,h2,h3,h4,h5⟩
 · omega
 · obtain⟨v1,v2⟩:=hI.lv R (List.mem_of_getElem? h3)
   obtain⟨e,he,h0⟩:=zBz v1;have:=h5 (e.1,e.2+sum) (List.mem_map.2 ⟨e,he,rfl⟩);simp only at this;omega
theorem Stands.next{D:List (List En)}{b:List St}(hI:Inv D b){S:List En}{xs:List Int}{i n:Nat}{sum c:Int}{s:St}(h:Stands D b S xs i n sum)(hs:b[n]?=some s)(hc:xs[i]?=some c):
 ((∀a∈s.arcs,a.label≠c)→∀sum',Stands D b S xs (i+1) (-1) sum')∧∀a∈s.arcs,a.label=c→Stands D b S xs (i+1) a.to (sum+a.out)∧a.to<b.length∧1≤sum+a.out∧sum+a.out≤1048576:=by
 rcases h with⟨h,_⟩|⟨m,R,h1,h2,h3,h4,h5⟩
 · omega
 · have hnm:m=n:=by omega
   subst hnm;obtain⟨e1,e2,ct⟩:=hI.row m s hs;rw[h3]at e1;have hR:R=exp D s:=Option.some.inj e1;have hd:xs.drop i=c::xs.drop (i+1):=by
    obtain⟨hi,rfl⟩:=List.getElem?_eq_some_iff.1 hc;exact List.drop_eq_getElem_cons hi
   rw[hd,zQb,zFh,hR,zNn]at h4;refine⟨fun hno sum' => .inl ⟨rfl,?_⟩,fun a ha hac=>?_⟩
   · rw[h4,zGz _ hno];rfl
   · have hlt:a.to<b.length:=by have:=ct.to a ha;have:=hI.len;omega
     have haf:=zKc (D:=D) s.arcs a ct.lab ha hac;have hst:Stands D b S xs (i+1) a.to (sum+a.out):=by
      refine .inr ⟨a.to,D[a.to]?.getD [],rfl,hlt,?_,?_,fun e he=>?_⟩
      · rw[List.getElem?_eq_getElem (ct.to a ha)];rfl
      · rw[h4,haf,zB3]
        congr 2;omega
      · rw[Int.add_comm sum a.out,←zB3,←haf,←zNn,←zFh,←hR]at he
        exact h5 (pre c e) (zEm he)
     have hsum:=hst.sum hI;exact⟨hst,hlt,hsum.1,hsum.2⟩
end Fm
theorem zMw{f:Nat}{S:List En}(hG:Fm.Good (f+1) S):(stF (f+1) [] S).2+1=(stF (f+1) [] S).1.length:=by
 obtain⟨hr1,hr2⟩:=zBi hG.2.1;have hgg:=zCu hG;have hfl:=zEv _ (zAj S) (Nat.le_refl _) hr2;obtain⟨D1,M⟩:=zHr (base:=least S) (zCf f) (grp (zAj S)) [] [] Inv.nil hgg;rw[stF];generalize arF (stF f) (least S) [] (grp (zAj S))=q at M;obtain⟨b1,arcs⟩:=q;simp only at M ⊢;have hexp:exp D1 ⟨zCw S,zCi S,arcs⟩=zAd S:=by
  rw[exp,zAd,zGw S arcs,M.outs,←zGv,hfl]
 have hnot:(⟨zCw S,zCi S,arcs⟩:St)∉b1:=fun hm=>by
  obtain⟨j,hj⟩:=List.mem_iff_getElem?.1 hm;have h1:=(M.inv.row j _ hj).1;rw[hexp]at h1;have key:∀(R:List En) (T:List En) (k:Nat),Sub T R→(∀e∈T,e.1.length≤k)→∀e∈R,e.1.length≤k:=by
   intro R T k hs
   induction hs with
   |here T=>
    intro h e he;obtain⟨x,hx,rfl⟩:=List.mem_map.1 he;exact h x hx
   |@step T' R' p hp hsub ih=>
    intro h;(refine ih fun e he=>?_);have hmem:∀(l:List En) (m:Nat),l.length≤m→∀p∈grp l,∀e∈p.2,∃x∈l,e=tl x:=by
     intro l m
     induction m generalizing l with
     |zero=>intro hl p hp;have:l=[]:=List.eq_nil_of_length_eq_zero (by omega);subst this;cases hp
     |succ m ihm=>
      intro hl p hp e he;cases l with
      |nil=>cases hp
      |cons y r=>
       rw[zC1]at hp;rcases List.mem_cons.1 hp with rfl|hp
       · obtain⟨x,hx,rfl⟩:=List.mem_map.1 he
         exact⟨x,List.mem_of_mem_take hx,rfl⟩
       · obtain⟨x,hx,h2⟩:=ihm ((y::r).drop (lead (hd y) r+1)) (by rw[List.length_drop];simp at hl ⊢;omega) p hp e he
         exact⟨x,List.mem_of_mem_drop hx,h2⟩
    obtain⟨x,hx,rfl⟩:=hmem _ _ (Nat.le_refl _) p hp e he;have hxT:x∈T':=by
     cases T' with
     |nil=>exact hx
     |cons y r=>
      obtain⟨a,n⟩:=y;cases a with
      |nil=>exact .tail _ hx
      |cons c t=>exact hx
    have:=h x hxT;simp only[tl,List.length_tail];omega
  have hlong:∃e∈S,∀x∈S,x.1.length≤e.1.length:=by
   have:∀T:List En,T≠[]→∃e∈T,∀x∈T,x.1.length≤e.1.length:=by
    intro T
    induction T with
    |nil=>intro h;exact absurd rfl h
    |cons y r ih=>
     intro _;by_cases hr:r=[]
     · subst hr;exact⟨y,by simp,fun x hx=>by rw[List.mem_singleton]at hx;subst hx;exact Nat.le_refl _⟩
     · obtain⟨e,he,h⟩:=ih hr
       by_cases hl:e.1.length≤y.1.length
       · exact⟨y,by simp,fun x hx=>by
          rcases List.mem_cons.1 hx with rfl|hx
          · exact Nat.le_refl _
          · exact Nat.le_trans (h x hx) hl⟩
       · exact⟨e,by simp[he],fun x hx=>by
          rcases List.mem_cons.1 hx with rfl|hx
          · omega
          · exact h x hx⟩
   exact this S hG.1
  obtain⟨e,he,hmax⟩:=hlong;rcases M.sub _ (List.mem_of_getElem? h1)with h|⟨p,hp,h⟩
  · cases h
  · obtain⟨g0,hg0⟩:∃g0,g0∈p.2:=List.exists_mem_of_ne_nil _ (zJ1 _ _ (Nat.le_refl _) p hp)
    have hpos:0<e.1.length:=by
     have h2:=zFd hr2 hp hg0;have h3:pre p.1 g0∈S:=by
      cases S with
      |nil=>exact h2
      |cons y r=>
       obtain⟨a,n⟩:=y;cases a with
       |nil=>exact .tail _ h2
       |cons c t=>exact h2
     have:=hmax _ h3;simp only[pre,List.length_cons]at this;omega
    have hk:=key _ p.2 (e.1.length-1) h (fun x hx=>by
     have h2:=zFd hr2 hp hx;have h3:pre p.1 x∈S:=by
      cases S with
      |nil=>exact h2
      |cons y r=>
       obtain⟨a,n⟩:=y;cases a with
       |nil=>exact .tail _ h2
       |cons c t=>exact h2
     have:=hmax _ h3;simp only[pre,List.length_cons]at this;omega) (e.1,e.2 + -least S) (List.mem_map.2 ⟨e,he,rfl⟩)
    simp only at hk;omega
 rw[zDg,if_neg hnot];simp
theorem zV8{l:List Pr}(h:zAl l=0):∃D,Inv D (zAf l).2∧∀xs,Stands D (zAf l).2 (ents l) xs 0 ((zAf l).2.length-1) (zAf l).1:=by
 by_cases hl:l=[]
 · subst hl
   exact⟨[],Inv.nil,fun xs => .inl ⟨rfl,rfl⟩⟩
 · have hg:=zCd h hl
   obtain⟨D,M⟩:=zCf 25 [] [] (ents l) Inv.nil hg;have hrl:(stF 25 [] (ents l)).2+1=(stF 25 [] (ents l)).1.length:=zMw (f:=24) hg;rw[zAf,if_pos ⟨h,hl⟩];refine⟨D,M.inv,fun xs => .inr ⟨(stF 25 [] (ents l)).2,zAd (ents l),?_,(show(stF 25 [] (ents l)).2<(stF 25 [] (ents l)).1.length by omega),M.num,?_,?_⟩⟩
   · simp only;omega
   · have:zAi (least (ents l)) (zAd (ents l))=ents l:=by rw[zDo,Int.sub_self,zCk]
     rw[this];rfl
   · have:zAi (least (ents l)) (zAd (ents l))=ents l:=by rw[zDo,Int.sub_self,zCk]
     simp only;rw[this];exact(zB0 h).en.wt
end
namespace Fm
open Go.Proofs.YtkdhdehobdfakaaGreatDoor.Nums
def zIu:List Int→List En→List En
 |[],S=>S
 |c::t,S=>zIu t (after c S)
theorem zT4(c:Int)(S:List En):after c (zAj S)=after c S:=by
 cases S with
 |nil=>rfl
 |cons e r=>
  obtain⟨x,n⟩:=e;cases x with
  |nil=>simp[zAj,after]
  |cons d t=>rfl
theorem zEn{c:Int}:∀(gs:List (Int×List En)),(∀p∈gs,p.1≠c)→after c (flat gs)=[]
 |[],_=>rfl
 |p::r,h=>by
  have e:flat (p::r)=p.2.map (pre p.1)++flat r:=rfl;rw[e,zBk,zEl,if_neg (h p (by simp)),zEn r fun x hx=>h x (by simp[hx])];rfl
theorem zKd{c:Int}:∀(gs:List (Int×List En)) (p:Int×List En),gs.Pairwise (fun a b=>a.1<b.1)→p∈gs→p.1=c→after c (flat gs)=p.2
 |[],_,_,h,_=>by cases h
 |x::r,p,hp,h,hc=>by
  obtain⟨h1,h2⟩:=List.pairwise_cons.1 hp;have e:flat (x::r)=x.2.map (pre x.1)++flat r:=rfl;rw[e,zBk,zEl];rcases List.mem_cons.1 h with rfl|h
  · rw[if_pos hc,zEn r fun y hy=>by have:=h1 y hy;omega,List.append_nil]
  · have:=h1 p h
    rw[if_neg (by omega),zKd r p h2 h hc];rfl
theorem zNh{S:List En}(hS:Rise S){p:Int×List En}(hp:p∈grp (zAj S)):after p.1 S=p.2:=by
 obtain⟨h1,h2⟩:=zBi hS;have hf:=zEv _ (zAj S) (Nat.le_refl _) h2;have hl:=(zEt _ (zAj S) (Nat.le_refl _) h2 h1).1;rw[←zT4,←hf];exact zKd _ p hl hp rfl
theorem zKq{S R:List En}(hs:Sub S R):Rise S→S≠[]→∃xs n,(xs,n)∈S∧∃k,k≤xs.length∧R=zAd (zIu (xs.take k) S):=by
 induction hs with
 |here S=>
  intro _ hne;obtain⟨e,he⟩:=List.exists_mem_of_ne_nil _ hne;exact⟨e.1,e.2,he,0,Nat.zero_le _,rfl⟩
 |@step S R p hp hsub ih=>
  intro hr _;have hpa:=zNh hr hp;obtain⟨h1,h2⟩:=zBi hr;obtain⟨xs,n,hm,k,hk,hR⟩:=ih (zHk _ (zAj S) (Nat.le_refl _) h2 h1 p hp) (zJ1 _ _ (Nat.le_refl _) p hp);rw[←hpa]at hm hR;exact⟨p.1::xs,n,zEm hm,k+1,by simpa using hk,by rw[List.take_succ_cons];exact hR⟩
theorem zEz:∀(p:List Int) (S:List En) (e:En),e∈zIu p S→∃x∈S,e.2=x.2∧e.1.length≤x.1.length
 |[],S,e,h=>⟨e,h,rfl,Nat.le_refl _⟩
 |c::t,S,e,h=>by
  obtain⟨x,hx,h1,h2⟩:=zEz t (after c S) e h;refine⟨pre c x,zEm hx,h1,?_⟩;simp only[pre,List.length_cons];omega
theorem zE0:∀(p:List Int) (S:List En),(zIu p S).length≤S.length
 |[],_=>Nat.le_refl _
 |c::t,S=>by
  have h1:=zE0 t (after c S);have h2:∀l:List En,(after c l).length≤l.length:=by
   intro l
   induction l with
   |nil=>exact Nat.le_refl _
   |cons e r ih=>
    rw[after]
    split
    · simp only[List.length_cons];omega
    · simp only[List.length_cons];omega
  have:=h2 S;rw[zIu];omega
theorem same_len{α:Type}[DecidableEq α]:∀(l m:List α),l.Nodup→m.Nodup→(∀x,x∈l↔x∈m)→l.length=m.length:=by
 have le:∀(l m:List α),l.Nodup→(∀x∈l,x∈m)→l.length≤m.length:=by
  intro l
  induction l with
  |nil=>intro m _ _;exact Nat.zero_le _
  |cons x r ih=>
   intro m hn hs;obtain⟨h1,h2⟩:=List.nodup_cons.1 hn;have hx:=hs x (by simp);(have:=ih (m.erase x) h2 fun y hy=>(List.mem_erase_of_ne (fun e:y=x=>h1 (by rw[←e];exact hy))).2 (hs y (by simp[hy])));have hl:=List.length_erase_of_mem hx;have hp:0<m.length:=List.length_pos_of_mem hx;simp only[List.length_cons];omega
 intro l m hl hm h;exact Nat.le_antisymm (le l m hl fun x hx=>(h x).1 hx) (le m l hm fun x hx=>(h x).2 hx)
end Fm
