import Derived.Test.YtobjpljdgieklaaGreatDoorFBuild
set_option maxRecDepth 100000
set_option maxHeartbeats 8000000
namespace Go.Proofs.YtobjpljdgieklaaGreatDoor
section
open Nums Fm
namespace Fm
theorem zCp{D:List (List En)}{b:List St}(h:Inv D b){i:Nat}{s:St}(hi:b[i]?=some s):(s.final=true→0≤s.out)∧(∀a∈s.arcs,0≤a.out)∧((s.final=true∧s.out=0)∨∃a∈s.arcs,a.out=0):=by
 obtain⟨e1,_,c⟩:=h.row i s hi;obtain⟨hne,hl⟩:=h.lv _ (List.mem_of_getElem? e1);have hall:∀e∈exp D s,0≤e.2:=fun e he=>by rw[←hl];exact zCb he
 have hmem:∀a∈s.arcs,∀x∈D[a.to]?.getD [],pre a.label (x.1,x.2+a.out)∈exp D s:=fun a ha x hx=>by
  refine List.mem_append_right _ (List.mem_flatMap.2 ⟨_,List.mem_map.2 ⟨a,ha,rfl⟩,List.mem_map.2 ⟨(x.1,x.2+a.out),?_,rfl⟩⟩);exact List.mem_map.2 ⟨x,hx,rfl⟩
 have hout:∀a∈s.arcs,0≤a.out:=fun a ha=>by
  have hv:=h.lv _ (List.getElem_mem (c.to a ha));obtain⟨x,hx,h0⟩:=zB1 hv.1;have:=hall _ (hmem a ha x (by rw[List.getElem?_eq_getElem (c.to a ha)];exact hx));simp only[pre]at this;omega
 refine⟨fun hf=>hall ([],s.out) (List.mem_append_left _ (by simp[fins,hf])),hout,?_⟩;obtain⟨e,he,h0⟩:=zB1 hne;rw[hl]at h0;rcases List.mem_append.1 he with he|he
 · unfold fins at he
   split at he
   · rename_i hf
     rw[List.mem_singleton.1 he]at h0;exact .inl ⟨hf,h0⟩
   · cases he
 · obtain⟨p,hp,h2⟩:=List.mem_flatMap.1 he
   obtain⟨a,ha,rfl⟩:=List.mem_map.1 hp;obtain⟨y,hy,rfl⟩:=List.mem_map.1 h2;obtain⟨x,hx,rfl⟩:=List.mem_map.1 hy;rw[List.getElem?_eq_getElem (c.to a ha),Option.getD_some]at hx;have hv:=h.lv _ (List.getElem_mem (c.to a ha));have h1:=zCb hx;rw[hv.2]at h1;have h2:=hout a ha;simp only[pre]at h0;exact .inr ⟨a,ha,by omega⟩
end Fm
theorem zK6{l:List Pr}(h:l≠[]):ents l≠[]:=by simp[ents,h]
theorem zCd{l:List Pr}(h:zAl l=0)(hl:l≠[]):Fm.Good 25 (ents l):=by
 have hd:=zB2 h;exact⟨zK6 hl,hd.rise,fun e he=>by have:=hd.en.ln e he;omega⟩
namespace Fm
def wt(xs:List Int)(S:List En):Option Int:=(S.find? fun e=>e.1==xs).map (·.2)
def after(c:Int):List En→List En
 |[]=>[]
 |e::r=>if e.1.head?=some c then tl e::after c r else after c r
theorem zF7(xs:List Int)(e:En)(r:List En):wt xs (e::r)=if e.1=xs then some e.2 else wt xs r:=by
 unfold wt;rw[List.find?_cons];by_cases h:e.1=xs
 · rw[if_pos h,beq_iff_eq.2 h];rfl
 · rw[if_neg h,beq_eq_false_iff_ne.2 h]
theorem zPo(c:Int)(t:List Int):∀S:List En,wt (c::t) S=wt t (after c S)
 |[]=>rfl
 |e::r=>by
  obtain⟨x,n⟩:=e;rw[zF7,after,zPo c t r];cases x with
  |nil=>simp
  |cons d y=>
   by_cases h:d=c
   · subst h
     have e1:tl (d::y,n)=(y,n):=rfl;simp only[List.head?_cons,if_true,e1];rw[zF7];simp only[List.cons.injEq,true_and]
   · have h1:¬(d::y=c::t):=fun e=>h (List.cons.inj e).1
     (have h2:¬(some d=some c):=fun e=>h (Option.some.inj e));simp only[List.head?_cons,h1,h2,if_false]
theorem zBl(c:Int):∀(S T:List En),after c (S++T)=after c S++after c T
 |[],_=>rfl
 |e::r,T=>by
  rw[List.cons_append,after,after,zBl c r T]
  split<;>rfl
theorem zEf(c d:Int):∀G:List En,after c (G.map (pre d))=if d=c then G else []
 |[]=>by simp[after]
 |e::r=>by
  rw[List.map_cons,after,zEf c d r];by_cases h:d=c
  · subst h;simp[pre,tl]
  · simp[pre,h]
theorem zFb(n:Int)(c:Int):∀S:List En,after c (zAh n S)=zAh n (after c S)
 |[]=>rfl
 |e::r=>by
  rw[zAh,List.map_cons,←zAh,after,after,zFb n c r];by_cases h:e.1.head?=some c
  · rw[if_pos h,if_pos h];rfl
  · rw[if_neg h,if_neg h]
theorem zEg{c:Int}:∀{S:List En} {e:En},e∈after c S→pre c e∈S
 |[],e,h=>by cases h
 |x::r,e,h=>by
  rw[after]at h
  split at h
  · rename_i hx
    rcases List.mem_cons.1 h with rfl|h
    · have:pre c (tl x)=x:=by
       obtain⟨y,n⟩:=x;cases y with
       |nil=>cases hx
       |cons d t=>
        simp only[List.head?_cons,Option.some.injEq]at hx;subst hx;rfl
      rw[this];simp
    · exact .tail _ (zEg h)
  · exact .tail _ (zEg h)
theorem zGp{D:List (List En)}{c:Int}:∀(l:List Arc),(∀a∈l,a.label≠c)→after c (flat (outs D l))=[]
 |[],_=>rfl
 |a::r,h=>by
  have e:flat (outs D (a::r))=(zAh a.out (D[a.to]?.getD [])).map (pre a.label)++flat (outs D r):=rfl;rw[e,zBl,zEf,if_neg (h a (by simp)),zGp r fun x hx=>h x (by simp[hx])];rfl
theorem zJt{D:List (List En)}{c:Int}:∀(l:List Arc) (a:Arc),l.Pairwise (fun a b=>a.label<b.label)→a∈l→a.label=c→after c (flat (outs D l))=zAh a.out (D[a.to]?.getD [])
 |[],_,_,h,_=>by cases h
 |x::r,a,hp,h,hc=>by
  obtain⟨h1,h2⟩:=List.pairwise_cons.1 hp;have e:flat (outs D (x::r))=(zAh x.out (D[x.to]?.getD [])).map (pre x.label)++flat (outs D r):=rfl;rw[e,zBl,zEf];rcases List.mem_cons.1 h with rfl|h
  · rw[if_pos hc,zGp r fun y hy=>by have:=h1 y hy;omega,List.append_nil]
  · have:=h1 a h
    rw[if_neg (by omega),zJt r a h2 h hc];rfl
theorem zS8(c:Int)(s:St):after c (fins s)=[]:=by
 unfold fins
 split
 · simp[after]
 · rfl
theorem zM1{D:List (List En)}{s:St}(c:Int):after c (exp D s)=after c (flat (outs D s.arcs)):=by
 rw[exp,zBl,zS8,List.nil_append]
theorem wt_zero{D:List (List En)}{s:St}(n:Int):wt [] (zAh n (exp D s))=if s.final then some (n+s.out)else none:=by
 have hne:∀T:List En,(∀e∈T,e.1≠[])→wt [] T=none:=by
  intro T
  induction T with
  |nil=>intro _;rfl
  |cons e r ih=>
   intro h;rw[zF7,if_neg (h e (by simp)),ih fun x hx=>h x (by simp[hx])]
 have h2:∀e∈zAh n (flat (outs D s.arcs)),e.1≠[]:=fun e he=>by
  obtain⟨x,hx,rfl⟩:=List.mem_map.1 he;exact zWf x hx
 have e:zAh n (exp D s)=zAh n (fins s)++zAh n (flat (outs D s.arcs)):=by rw[exp,zAh,List.map_append];rfl
 rw[e,fins]
 split
 · simp only[zAh,List.map_cons,List.map_nil,List.cons_append,List.nil_append]
   rw[zF7,if_pos rfl,Int.add_comm]
 · exact hne _ h2
def Stands(D:List (List En))(b:List St)(S:List En)(xs:List Int)(i:Nat)(at' sum:Int):Prop:=
 (at' = -1∧wt xs S=none)∨∃(n:Nat) (R:List En),at'=n∧n<b.length∧D[n]?=some R∧wt xs S=wt (xs.drop i) (zAh sum R)∧∀e∈zAh sum R,1≤e.2∧e.2≤1048576
theorem Stands.sum{D:List (List En)}{b:List St}(hI:Inv D b){S:List En}{xs:List Int}{i n:Nat}{sum:Int}(h:Stands D b S xs i n sum):1≤sum∧sum≤1048576:=by
 rcases h with⟨h,_⟩|⟨m,R,h1,h2,h3,h4,h5⟩
 · omega
 · obtain⟨v1,v2⟩:=hI.lv R (List.mem_of_getElem? h3)
   obtain⟨e,he,h0⟩:=zB1 v1;have:=h5 (e.1,e.2+sum) (List.mem_map.2 ⟨e,he,rfl⟩);simp only at this;omega
theorem Stands.next{D:List (List En)}{b:List St}(hI:Inv D b){S:List En}{xs:List Int}{i n:Nat}{sum c:Int}{s:St}(h:Stands D b S xs i n sum)(hs:b[n]?=some s)(hc:xs[i]?=some c):
 ((∀a∈s.arcs,a.label≠c)→∀sum',Stands D b S xs (i+1) (-1) sum')∧∀a∈s.arcs,a.label=c→Stands D b S xs (i+1) a.to (sum+a.out)∧a.to<b.length∧1≤sum+a.out∧sum+a.out≤1048576:=by
 rcases h with⟨h,_⟩|⟨m,R,h1,h2,h3,h4,h5⟩
 · omega
 · have hnm:m=n:=by omega
   subst hnm;obtain⟨e1,e2,ct⟩:=hI.row m s hs;rw[h3]at e1;have hR:R=exp D s:=Option.some.inj e1;have hd:xs.drop i=c::xs.drop (i+1):=by
    obtain⟨hi,rfl⟩:=List.getElem?_eq_some_iff.1 hc;exact List.drop_eq_getElem_cons hi
   rw[hd,zPo,zFb,hR,zM1]at h4;refine⟨fun hno sum' => .inl ⟨rfl,?_⟩,fun a ha hac=>?_⟩
   · rw[h4,zGp _ hno];rfl
   · have hlt:a.to<b.length:=by have:=ct.to a ha;have:=hI.len;omega
     have haf:=zJt (D:=D) s.arcs a ct.lab ha hac;have hst:Stands D b S xs (i+1) a.to (sum+a.out):=by
      refine .inr ⟨a.to,D[a.to]?.getD [],rfl,hlt,?_,?_,fun e he=>?_⟩
      · rw[List.getElem?_eq_getElem (ct.to a ha)];rfl
      · rw[h4,haf,zB5]
        congr 2;omega
      · rw[Int.add_comm sum a.out,←zB5,←haf,←zM1,←zFb,←hR]at he
        exact h5 (pre c e) (zEg he)
     have hsum:=hst.sum hI;exact⟨hst,hlt,hsum.1,hsum.2⟩
end Fm
theorem zL8{f:Nat}{S:List En}(hG:Fm.Good (f+1) S):(stF (f+1) [] S).2+1=(stF (f+1) [] S).1.length:=by
 obtain⟨hr1,hr2⟩:=zBi hG.2.1;have hgg:=zCu hG;have hfl:=zEp _ (zAi S) (Nat.le_refl _) hr2;obtain⟨D1,M⟩:=zHg (base:=least S) (zCe f) (grp (zAi S)) [] [] Inv.nil hgg;rw[stF];generalize arF (stF f) (least S) [] (grp (zAi S))=q at M;obtain⟨b1,arcs⟩:=q;simp only at M ⊢;have hexp:exp D1 ⟨zCv S,zCh S,arcs⟩=zAd S:=by
  rw[exp,zAd,zGm S arcs,M.outs,←zGl,hfl]
 have hnot:(⟨zCv S,zCh S,arcs⟩:St)∉b1:=fun hm=>by
  obtain⟨j,hj⟩:=List.mem_iff_getElem?.1 hm;have h1:=(M.inv.row j _ hj).1;rw[hexp]at h1;have key:∀(R:List En) (T:List En) (k:Nat),Sub T R→(∀e∈T,e.1.length≤k)→∀e∈R,e.1.length≤k:=by
   intro R T k hs
   induction hs with
   |here T=>
    intro h e he;obtain⟨x,hx,rfl⟩:=List.mem_map.1 he;exact h x hx
   |@step T' R' p hp hsub ih=>
    intro h;(refine ih fun e he=>?_);have hmem:∀(l:List En) (m:Nat),l.length≤m→∀p∈grp l,∀e∈p.2,∃x∈l,e=tl x:=by
     intro l m
     induction m generalizing l with
     |zero=>intro hl p hp;have:l=[]:=List.eq_nil_of_length_eq_zero (by omega);subst this;cases hp
     |succ m ihm=>
      intro hl p hp e he;cases l with
      |nil=>cases hp
      |cons y r=>
       rw[zC1]at hp;rcases List.mem_cons.1 hp with rfl|hp
       · obtain⟨x,hx,rfl⟩:=List.mem_map.1 he
         exact⟨x,List.mem_of_mem_take hx,rfl⟩
       · obtain⟨x,hx,h2⟩:=ihm ((y::r).drop (lead (hd y) r+1)) (by rw[List.length_drop];simp at hl ⊢;omega) p hp e he
         exact⟨x,List.mem_of_mem_drop hx,h2⟩
    obtain⟨x,hx,rfl⟩:=hmem _ _ (Nat.le_refl _) p hp e he;have hxT:x∈T':=by
     cases T' with
     |nil=>exact hx
     |cons y r=>
      obtain⟨a,n⟩:=y;cases a with
      |nil=>exact .tail _ hx
      |cons c t=>exact hx
    have:=h x hxT;simp only[tl,List.length_tail];omega
  have hlong:∃e∈S,∀x∈S,x.1.length≤e.1.length:=by
   have:∀T:List En,T≠[]→∃e∈T,∀x∈T,x.1.length≤e.1.length:=by
    intro T
    induction T with
    |nil=>intro h;exact absurd rfl h
    |cons y r ih=>
     intro _;by_cases hr:r=[]
     · subst hr;exact⟨y,by simp,fun x hx=>by rw[List.mem_singleton]at hx;subst hx;exact Nat.le_refl _⟩
     · obtain⟨e,he,h⟩:=ih hr
       by_cases hl:e.1.length≤y.1.length
       · exact⟨y,by simp,fun x hx=>by
          rcases List.mem_cons.1 hx with rfl|hx
          · exact Nat.le_refl _
          · exact Nat.le_trans (h x hx) hl⟩
       · exact⟨e,by simp[he],fun x hx=>by
          rcases List.mem_cons.1 hx with rfl|hx
          · omega
          · exact h x hx⟩
   exact this S hG.1
  obtain⟨e,he,hmax⟩:=hlong;rcases M.sub _ (List.mem_of_getElem? h1)with h|⟨p,hp,h⟩
  · cases h
  · obtain⟨g0,hg0⟩:∃g0,g0∈p.2:=List.exists_mem_of_ne_nil _ (zJk _ _ (Nat.le_refl _) p hp)
    have hpos:0<e.1.length:=by
     have h2:=zE6 hr2 hp hg0;have h3:pre p.1 g0∈S:=by
      cases S with
      |nil=>exact h2
      |cons y r=>
       obtain⟨a,n⟩:=y;cases a with
       |nil=>exact .tail _ h2
       |cons c t=>exact h2
     have:=hmax _ h3;simp only[pre,List.length_cons]at this;omega
    have hk:=key _ p.2 (e.1.length-1) h (fun x hx=>by
     have h2:=zE6 hr2 hp hx;have h3:pre p.1 x∈S:=by
      cases S with
      |nil=>exact h2
      |cons y r=>
       obtain⟨a,n⟩:=y;cases a with
       |nil=>exact .tail _ h2
       |cons c t=>exact h2
     have:=hmax _ h3;simp only[pre,List.length_cons]at this;omega) (e.1,e.2 + -least S) (List.mem_map.2 ⟨e,he,rfl⟩)
    simp only at hk;omega
 rw[zDe,if_neg hnot];simp
theorem zU7{l:List Pr}(h:zAl l=0):∃D,Inv D (zAg l).2∧∀xs,Stands D (zAg l).2 (ents l) xs 0 ((zAg l).2.length-1) (zAg l).1:=by
 by_cases hl:l=[]
 · subst hl
   exact⟨[],Inv.nil,fun xs => .inl ⟨rfl,rfl⟩⟩
 · have hg:=zCd h hl
   obtain⟨D,M⟩:=zCe 25 [] [] (ents l) Inv.nil hg;have hrl:(stF 25 [] (ents l)).2+1=(stF 25 [] (ents l)).1.length:=zL8 (f:=24) hg;rw[zAg,if_pos ⟨h,hl⟩];refine⟨D,M.inv,fun xs => .inr ⟨(stF 25 [] (ents l)).2,zAd (ents l),?_,(show(stF 25 [] (ents l)).2<(stF 25 [] (ents l)).1.length by omega),M.num,?_,?_⟩⟩
   · simp only;omega
   · have:zAh (least (ents l)) (zAd (ents l))=ents l:=by rw[zDm,Int.sub_self,zCk]
     rw[this];rfl
   · have:zAh (least (ents l)) (zAd (ents l))=ents l:=by rw[zDm,Int.sub_self,zCk]
     simp only;rw[this];exact(zB2 h).en.wt
end
namespace Pk
open Go.Proofs.YtobjpljdgieklaaGreatDoor.Nums
structure RArc where
 label:Int
 out:Int
 to:Int
deriving DecidableEq
structure RSt where
 final:Bool
 out:Int
 arcs:List RArc
deriving DecidableEq
def minF(m:Int):List RArc→Int
 |[]=>m
 |a::r=>minF (min m a.out) r
def zGt(s:RSt):Int:=minF (if s.final then s.out else 9223372036854775807) s.arcs
def zC7(r:Int):Bool:=isR r&&vis r
def ordB(n:Int):Option Int→List RArc→Bool
 |_,[]=>true
 |p,a::r=>!(p.any fun q=>decide (a.label≤q))&&zC7 a.label&&decide (0≤a.to∧a.to<n)&&ordB n (some a.label) r
def zIt(s:RSt)(i:Nat):Bool:=(s.final||decide (s.out=0))&&decide (zGt s=0)&&ordB i none s.arcs
def zBg:Nat→List RSt→Bool
 |_,[]=>true
 |i,s::r=>zIt s i&&zBg (i+1) r
structure Reach where
 arcs:Int
 words:Int
 weight:Int
deriving DecidableEq
def zE0(known:List Reach)(r:Reach)(a:RArc):Reach:=
 ⟨max r.arcs ((known.getD a.to.toNat ⟨0,0,0⟩).arcs+1),r.words+(known.getD a.to.toNat ⟨0,0,0⟩).words,max r.weight (min a.out 1048576+(known.getD a.to.toNat ⟨0,0,0⟩).weight)⟩
def behR(s:RSt)(known:List Reach):Reach:=s.arcs.foldl (zE0 known) (if s.final then ⟨0,1,s.out⟩else ⟨0,0,0⟩)
def okR(base:Int)(r:Reach):Bool:=decide (r.arcs≤24∧r.words≤4096∧r.weight≤1048576-base)
def bndB(base:Int):List Reach→List RSt→Bool
 |_,[]=>true
 |known,s::r=>okR base (behR s known)&&bndB base (known++[behR s known]) r
def zDl(visit:Nat→Nat→Option Nat):List RArc→Nat→Option Nat
 |[],next=>some next
 |a::r,next=>if (next:Int)≤a.to then (visit a.to.toNat next).bind (zDl visit r)else zDl visit r next
def vis8(m:List RSt):Nat→Nat→Nat→Option Nat
 |0,_,_=>none
 |f+1,n,next=>(zDl (vis8 m f) (m.getD n ⟨false,0,[]⟩).arcs next).bind fun k=>if n=k then some (k+1)else none
def numB(m:List RSt):Bool:=(vis8 m (m.length+25) (m.length-1) 0).isSome
def rightB(base:Int)(m:List RSt):Bool:=
 if m=[]then decide (base=0)else
  decide (1≤base∧base≤1048576)&&!(m.getD (m.length-1) ⟨false,0,[]⟩).final&&zBg 0 m&&bndB base [] m&&numB m&&decide m.Nodup
end Pk
