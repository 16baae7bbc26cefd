import Derived.Test.YtobjpljdgieklaaGreatDoorJ5
import Derived.Test.YtobjpljdgieklaaGreatDoorJ7
set_option maxRecDepth 100000
set_option maxHeartbeats 8000000
namespace Go.Proofs.YtobjpljdgieklaaGreatDoor
namespace Fm
open Go.Proofs.YtobjpljdgieklaaGreatDoor.Nums
def Rise(S:List En):Prop:=S.Pairwise fun a b=>lexL a.1 b.1=true
theorem zVc{x y:List Int}(h:lexL x y=true):y≠[]:=fun e=>by rw[e,zEm]at h;cases h
theorem zBi{S:List En}(h:Rise S):Rise (zAi S)∧∀e∈zAi S,e.1≠[]:=by
 cases S with
 |nil=>exact⟨h,fun e he=>by cases he⟩
 |cons x r=>
  obtain⟨a,n⟩:=x;obtain⟨h1,h2⟩:=List.pairwise_cons.1 h;cases a with
  |nil=>exact⟨h2,fun e he=>zVc (h1 e he)⟩
  |cons c t=>
   refine⟨h,fun e he=>?_⟩;rcases List.mem_cons.1 he with rfl|he
   · simp
   · exact zVc (h1 e he)
def pre(c:Int)(e:En):En:=(c::e.1,e.2)
theorem zUj{e:En}(h:e.1≠[]):pre (hd e) (tl e)=e:=by
 obtain⟨x,n⟩:=e;cases x with
 |nil=>exact absurd rfl h
 |cons c t=>rfl
def flat(gs:List (Int×List En)):List En:=gs.flatMap fun p=>p.2.map (pre p.1)
theorem zVi(c:Int):∀(r:List En),∀e∈r.take (lead c r),hd e=c
 |[],e,h=>by simp at h
 |x::r,e,h=>by
  rw[lead]at h
  split at h
  · rename_i hx
    rw[List.take_succ_cons]at h;rcases List.mem_cons.1 h with rfl|h
    · exact hx
    · exact zVi c r e h
  · simp at h
theorem zJf{c:Int}:∀(l:List En),(∀e∈l,e.1≠[]∧hd e=c)→(l.map tl).map (pre c)=l
 |[],_=>rfl
 |e::r,h=>by
  obtain⟨h1,h2⟩:=h e (by simp);rw[List.map_cons,List.map_cons,zJf r fun x hx=>h x (by simp[hx]),←h2,zUj h1]
theorem zQz{e:En}{r:List En}:∀x∈(e::r).take (lead (hd e) r+1),hd x=hd e:=fun x hx=>by
 rw[List.take_succ_cons]at hx;rcases List.mem_cons.1 hx with rfl|hx
 · rfl
 · exact zVi _ _ x hx
theorem zEp:∀(n:Nat) (l:List En),l.length≤n→(∀e∈l,e.1≠[])→flat (grp l)=l
 |_,[],_,_=>rfl
 |0,e::r,h,_=>by simp at h
 |n+1,e::r,h,hne=>by
  rw[zC1,flat,List.flatMap_cons,←flat];rw[zEp n _ (by rw[List.length_drop];simp at h ⊢;omega) (fun x hx=>hne x (List.mem_of_mem_drop hx))];rw[zJf _ fun x hx=>⟨hne x (List.mem_of_mem_take hx),zQz x hx⟩,List.take_append_drop]
theorem zJk:∀(n:Nat) (l:List En),l.length≤n→∀p∈grp l,p.2≠[]
 |_,[],_,_,h=>by cases h
 |0,e::r,h,_,_=>by simp at h
 |n+1,e::r,h,p,hp=>by
  rw[zC1]at hp;rcases List.mem_cons.1 hp with rfl|hp
  · simp
  · exact zJk n _ (by rw[List.length_drop];simp at h ⊢;omega) p hp
theorem zE6{l:List En}(hne:∀e∈l,e.1≠[]){p:Int×List En}(hp:p∈grp l){e:En}(he:e∈p.2):pre p.1 e∈l:=by
 rw[←zEp _ l (Nat.le_refl _) hne];exact List.mem_flatMap.2 ⟨p,hp,List.mem_map.2 ⟨e,he,rfl⟩⟩
theorem rise_tl{c:Int}{l:List En}(h:Rise l)(hc:∀e∈l,e.1≠[]∧hd e=c):Rise (l.map tl):=by
 unfold Rise;rw[List.pairwise_map];refine List.Pairwise.imp_of_mem ?_ h;intro a b ha hb hab;obtain⟨h1,h2⟩:=hc a ha;obtain⟨h3,h4⟩:=hc b hb;obtain⟨x,n⟩:=a;obtain⟨y,m⟩:=b;cases x with
 |nil=>exact absurd rfl h1
 |cons p x=>
  cases y with
  |nil=>exact absurd rfl h3
  |cons q y=>
   have e1:p=c:=h2;have e2:q=c:=h4;rw[e1,e2]at hab;show lexL x y=true;rw[←zD9 c x y];exact hab
theorem zG7:∀(n:Nat) (l:List En),l.length≤n→(∀e∈l,e.1≠[])→Rise l→∀p∈grp l,Rise p.2
 |_,[],_,_,_,_,h=>by cases h
 |0,e::r,h,_,_,_,_=>by simp at h
 |n+1,e::r,h,hne,hr,p,hp=>by
  rw[zC1]at hp;rcases List.mem_cons.1 hp with rfl|hp
  · exact rise_tl (List.Pairwise.sublist (List.take_sublist _ _) hr) fun x hx=>⟨hne x (List.mem_of_mem_take hx),zQz x hx⟩
  · exact zG7 n _ (by rw[List.length_drop];simp at h ⊢;omega) (fun x hx=>hne x (List.mem_of_mem_drop hx)) (List.Pairwise.sublist (List.drop_sublist _ _) hr) p hp
theorem hd_le{a b:En}(h:lexL a.1 b.1=true)(ha:a.1≠[]):hd a≤hd b:=by
 obtain⟨x,n⟩:=a;obtain⟨y,m⟩:=b;cases x with
 |nil=>exact absurd rfl ha
 |cons p x=>
  cases y with
  |nil=>rw[zEm]at h;cases h
  |cons q y=>
   rw[zCs]at h;show p≤q;simp only[Bool.or_eq_true,Bool.and_eq_true,decide_eq_true_eq]at h;omega
theorem zMq(c:Int):∀(r:List En) (x:En),r[lead c r]?=some x→hd x≠c
 |[],x,h=>by simp at h
 |e::r,x,h=>by
  rw[lead]at h
  split at h
  · exact zMq c r x (by simpa using h)
  · rename_i hne
    simp at h;subst h;exact hne
theorem zEn:∀(n:Nat) (l:List En),l.length≤n→(∀e∈l,e.1≠[])→Rise l→(grp l).Pairwise (fun p q=>p.1<q.1)∧∀p∈grp l,∃e∈l,hd e=p.1
 |_,[],_,_,_=>⟨List.Pairwise.nil,fun p h=>by cases h⟩
 |0,e::r,h,_,_=>by simp at h
 |n+1,e::r,h,hne,hr=>by
  obtain⟨ih1,ih2⟩:=zEn n ((e::r).drop (lead (hd e) r+1)) (by rw[List.length_drop];simp at h ⊢;omega) (fun x hx=>hne x (List.mem_of_mem_drop hx)) (List.Pairwise.sublist (List.drop_sublist _ _) hr);rw[zC1];obtain⟨hr1,hr2⟩:=List.pairwise_cons.1 hr;have hgt:∀x∈(e::r).drop (lead (hd e) r+1),hd e<hd x:=fun x hx=>by
   rw[List.drop_succ_cons]at hx;have hxr:=List.mem_of_mem_drop hx;have h1:=hd_le (hr1 x hxr) (hne e (by simp));obtain⟨j,hj⟩:=List.mem_iff_getElem?.1 hx;rw[List.getElem?_drop]at hj;obtain⟨hjl,hje⟩:=List.getElem?_eq_some_iff.1 hj;obtain⟨y,hy⟩:∃y,r[lead (hd e) r]?=some y:=⟨r[lead (hd e) r]'(by omega),List.getElem?_eq_getElem _⟩;have hyn:=zMq _ _ _ hy;obtain⟨hyl,hye⟩:=List.getElem?_eq_some_iff.1 hy;have hym:y∈r:=List.mem_of_getElem? hy;have h2:=hd_le (hr1 y hym) (hne e (by simp));have h3:hd y≤hd x:=by
    cases j with
    |zero=>rw[Nat.add_zero,hy]at hj;cases hj;exact Int.le_refl _
    |succ j=>
     have:=List.pairwise_iff_getElem.1 hr2 (lead (hd e) r) (lead (hd e) r+(j+1)) hyl hjl (by omega);rw[hye,hje]at this;exact hd_le this (hne y (by simp[hym]))
   omega
  refine⟨List.pairwise_cons.2 ⟨fun p hp=>?_,ih1⟩,fun p hp=>?_⟩
  · obtain⟨x,hx,hxe⟩:=ih2 p hp
    rw[←hxe];exact hgt x hx
  · rcases List.mem_cons.1 hp with rfl|hp
    · exact⟨e,by simp,rfl⟩
    · obtain⟨x,hx,hxe⟩:=ih2 p hp
      exact⟨x,List.mem_of_mem_drop hx,hxe⟩
theorem zEk:∀(f:Nat) (S:List En),S≠[]→Rise S→(∀e∈S,e.1.length<f)→Ok f S
 |0,S,h,_,hl=>by
  cases S with
  |nil=>exact absurd rfl h
  |cons e r=>exact absurd (hl e (by simp)) (by omega)
 |f+1,S,h,hr,hl=>by
  obtain⟨h1,h2⟩:=zBi hr;have hsub:∀e∈zAi S,e∈S:=fun e he=>by
   cases S with
   |nil=>exact he
   |cons x r=>
    obtain⟨a,n⟩:=x;cases a with
    |nil=>exact .tail _ he
    |cons c t=>exact he
  refine⟨h,h2,fun p hp=>zEk f p.2 (zJk _ _ (Nat.le_refl _) p hp) (zG7 _ _ (Nat.le_refl _) h2 h1 p hp) fun e he=>?_⟩;have:=hl _ (hsub _ (zE6 h2 hp he));simp only[pre,List.length_cons]at this;omega
end Fm
namespace Fm
open Go.Proofs.YtobjpljdgieklaaGreatDoor.Nums
def zAh(n:Int)(S:List En):List En:=S.map fun e=>(e.1,e.2+n)
def zAd(S:List En):List En:=zAh (-least S) S
theorem zP2{n:Int}{S:List En}:zAh n S≠[]↔S≠[]:=by simp[zAh]
theorem zCk(S:List En):zAh 0 S=S:=by simp[zAh]
theorem zB5(m n:Int)(S:List En):zAh m (zAh n S)=zAh (n+m) S:=by
 simp only[zAh,List.map_map];refine List.map_congr_left fun e _=>?_
 simp only[Function.comp,Int.add_assoc]
theorem zGu(n:Int):∀(l:List En) (m:Int),zAs (m+n) (zAh n l)=zAs m l+n
 |[],_=>rfl
 |e::r,m=>by
  have ih:=zGu n r (if e.2<m then e.2 else m);rw[zAh,List.map_cons,←zAh,zAs,zAs,←ih];congr 1;simp only
  split<;>split<;>omega
theorem zB6(n:Int){S:List En}(h:S≠[]):least (zAh n S)=least S+n:=by
 cases S with
 |nil=>exact absurd rfl h
 |cons e r=>exact zGu n (e::r) e.2
theorem zE4{S:List En}(h:S≠[]):least (zAd S)=0:=by rw[zAd,zB6 _ h];omega
theorem zE3(n:Int){S:List En}(h:S≠[]):zAd (zAh n S)=zAd S:=by
 rw[zAd,zB6 n h,zB5,zAd];congr 1;omega
theorem level_of{S:List En}(h:least S=0):zAd S=S:=by rw[zAd,h];exact zCk S
theorem zG4{S:List En}:zAd S≠[]↔S≠[]:=zP2
theorem zDm(n:Int)(S:List En):zAh n (zAd S)=zAh (n-least S) S:=by rw[zAd,zB5];congr 1;omega
theorem zTz{n:Int}{S T:List En}(h:zAh n S=zAh n T):S=T:=by
 have:=congrArg (zAh (-n)) h;rw[zB5,zB5,Int.add_right_neg,zCk,zCk]at this;exact this
theorem zH3(n:Int):∀l:List En,grp (zAh n l)=(grp l).map fun p=>(p.1,zAh n p.2)
 |[]=>rfl
 |e::r=>by
  have ih:=zH3 n r;rw[zAh,List.map_cons,←zAh,grp,grp,ih];cases grp r with
  |nil=>rfl
  |cons p gs=>
   obtain⟨c,G⟩:=p;simp only[List.map_cons];have hh:hd (e.1,e.2+n)=hd e:=rfl;rw[hh];by_cases h:hd e=c
   · rw[if_pos h,if_pos h];rfl
   · rw[if_neg h,if_neg h];rfl
theorem zD1(n:Int)(S:List En):zAi (zAh n S)=zAh n (zAi S):=by
 cases S with
 |nil=>rfl
 |cons e r=>
  obtain⟨x,m⟩:=e;cases x<;>rfl
theorem zH7(n:Int)(S:List En):zCv (zAh n S)=zCv S:=by
 cases S with
 |nil=>rfl
 |cons e r=>
  obtain⟨x,m⟩:=e;cases x<;>rfl
theorem zGl(n:Int)(gs:List (Int×List En)):zAh n (flat gs)=flat (gs.map fun p=>(p.1,zAh n p.2)):=by
 simp only[zAh,flat,List.map_flatMap,List.flatMap_map,List.map_map];rfl
def outs(D:List (List En))(as':List Arc):List (Int×List En):=as'.map fun a=>(a.label,zAh a.out (D[a.to]?.getD []))
def fins(s:St):List En:=if s.final then [([],s.out)]else []
def exp(D:List (List En))(s:St):List En:=fins s++flat (outs D s.arcs)
structure Canon(D:List (List En))(s:St):Prop where
 lab:s.arcs.Pairwise fun a b=>a.label<b.label
 to:∀a∈s.arcs,a.to<D.length
 fin:s.final=false→s.out=0
structure Inv(D:List (List En))(b:List St):Prop where
 len:D.length=b.length
 row:∀(i:Nat) (s:St),b[i]?=some s→D[i]?=some (exp D s)∧(∀a∈s.arcs,a.to<i)∧Canon D s
 nd:D.Nodup
 lv:∀R∈D,R≠[]∧least R=0
theorem Inv.nil:Inv [] []:=⟨rfl,fun i s h=>by simp at h,List.nodup_nil,fun R h=>by cases h⟩
theorem zKk{α:Type}{D D':List α}(h:D<+:D'){i:Nat}(hi:i<D.length):D'[i]?=D[i]?:=by
 obtain⟨t,rfl⟩:=h;exact List.getElem?_append_left hi
theorem outs_pre{D D':List (List En)}(h:D<+:D'){l:List Arc}(ht:∀a∈l,a.to<D.length):outs D' l=outs D l:=by
 unfold outs;refine List.map_congr_left fun a ha=>?_
 rw[zKk h (ht a ha)]
theorem zH8{D D':List (List En)}(h:D<+:D'){s:St}(ht:∀a∈s.arcs,a.to<D.length):exp D' s=exp D s:=by
 rw[exp,exp,outs_pre h ht]
theorem Canon.pre{D D':List (List En)}(h:D<+:D'){s:St}(c:Canon D s):Canon D' s:=⟨c.lab,fun a ha=>Nat.lt_of_lt_of_le (c.to a ha) h.length_le,c.fin⟩
theorem zWf{gs:List (Int×List En)}:∀e∈flat gs,e.1≠[]:=fun e he=>by
 obtain⟨p,_,h2⟩:=List.mem_flatMap.1 he;obtain⟨x,_,rfl⟩:=List.mem_map.1 h2;simp[pre]
theorem zQ0:∀(gs:List (Int×List En)),(∀p∈gs,p.2≠[])→gs.Pairwise (fun p q=>p.1<q.1)→grp (flat gs)=gs
 |[],_,_=>rfl
 |(c,G)::r,hne,hp=>by
  obtain⟨h1,h2⟩:=List.pairwise_cons.1 hp;have ih:=zQ0 r (fun p hp=>hne p (by simp[hp])) h2;have key:∀(G:List En),G≠[]→grp (G.map (pre c)++flat r)=(c,G)::r:=by
   intro G
   induction G with
   |nil=>intro h;exact absurd rfl h
   |cons g0 G' ihG=>
    intro _;rw[List.map_cons,List.cons_append,grp];have hh:hd (pre c g0)=c:=rfl;have ht:tl (pre c g0)=g0:=rfl;by_cases hG:G'=[]
    · subst hG
      rw[List.map_nil,List.nil_append,ih,hh,ht];cases r with
      |nil=>rfl
      |cons p r'=>
       obtain⟨c',G''⟩:=p;(have:¬c=c':=fun e=>by have:=h1 (c',G'') (by simp);simp only at this;omega);simp only[if_neg this]
    · rw[ihG hG,hh,ht]
      simp
  have:flat ((c,G)::r)=G.map (pre c)++flat r:=rfl;rw[this];exact key G (hne (c,G) (by simp))
theorem zSn(s:St){T:List En}(hT:∀e∈T,e.1≠[]):zCv (fins s++T)=s.final∧zAi (fins s++T)=T:=by
 unfold fins;cases s.final with
 |true=>exact⟨rfl,rfl⟩
 |false=>
  cases T with
  |nil=>exact⟨rfl,rfl⟩
  |cons e r=>
   obtain⟨x,n⟩:=e;cases x with
   |nil=>exact absurd rfl (hT ([],n) (by simp))
   |cons c t=>exact⟨rfl,rfl⟩
theorem outs_ok{D:List (List En)}{l:List Arc}(hlv:∀R∈D,R≠[]∧least R=0)(ht:∀a∈l,a.to<D.length):∀p∈outs D l,p.2≠[]:=fun p hp=>by
 obtain⟨a,ha,rfl⟩:=List.mem_map.1 hp;rw[List.getElem?_eq_getElem (ht a ha)];exact zP2.2 (hlv _ (List.getElem_mem _)).1
theorem outs_lab{D:List (List En)}{l:List Arc}(h:l.Pairwise fun a b=>a.label<b.label):(outs D l).Pairwise fun p q=>p.1<q.1:=by
 unfold outs;rw[List.pairwise_map];exact h
theorem zK5{D:List (List En)}{s:St}(hlv:∀R∈D,R≠[]∧least R=0)(c:Canon D s):zCv (exp D s)=s.final∧grp (zAi (exp D s))=outs D s.arcs:=by
 obtain⟨h1,h2⟩:=zSn s (T:=flat (outs D s.arcs)) zWf;rw[exp,h1,h2];exact⟨rfl,zQ0 _ (outs_ok hlv c.to) (outs_lab c.lab)⟩
theorem zGg{D:List (List En)}(hn:D.Nodup){i j:Nat}(hi:i<D.length)(hj:j<D.length)(h:D[i]?.getD []=D[j]?.getD []):i=j:=by
 rw[List.getElem?_eq_getElem hi,List.getElem?_eq_getElem hj]at h;simp only[Option.getD_some]at h;have hp:=List.pairwise_iff_getElem.1 hn;rcases Nat.lt_trichotomy i j with h3|h3|h3
 · exact absurd h (hp i j hi hj h3)
 · exact h3
 · exact absurd h.symm (hp j i hj hi h3)
theorem zQf{D:List (List En)}(hn:D.Nodup)(hlv:∀R∈D,R≠[]∧least R=0):∀(l m:List Arc),(∀a∈l,a.to<D.length)→(∀a∈m,a.to<D.length)→outs D l=outs D m→l=m
 |[],[],_,_,_=>rfl
 |[],_::_,_,_,h=>by simp[outs]at h
 |_::_,[],_,_,h=>by simp[outs]at h
 |a::l,c::m,hl,hm,h=>by
  simp only[outs,List.map_cons,List.cons.injEq,Prod.mk.injEq]at h;obtain⟨⟨h1,h2⟩,h3⟩:=h;have ha:=hl a (by simp);have hc:=hm c (by simp);have va:=hlv _ (List.getElem_mem ha);have vc:=hlv _ (List.getElem_mem hc);have h2':=h2;rw[List.getElem?_eq_getElem ha,List.getElem?_eq_getElem hc]at h2';simp only[Option.getD_some]at h2';have ho:a.out=c.out:=by
   have:=congrArg least h2';rw[zB6 _ va.1,zB6 _ vc.1,va.2,vc.2]at this;omega
  rw[ho]at h2;have ht:=zGg hn ha hc (zTz h2);have e:a=c:=by cases a;cases c;simp only at h1 ho ht;rw[h1,ho,ht]
  rw[e,zQf hn hlv l m (fun x hx=>hl x (by simp[hx])) (fun x hx=>hm x (by simp[hx])) h3]
theorem zWh{D:List (List En)}(hn:D.Nodup)(hlv:∀R∈D,R≠[]∧least R=0){s t:St}(cs:Canon D s)(ct:Canon D t)(h:exp D s=exp D t):s=t:=by
 obtain⟨f1,g1⟩:=zK5 hlv cs;obtain⟨f2,g2⟩:=zK5 hlv ct;rw[h,f2]at f1;rw[h,g2]at g1;have ha:=zQf hn hlv _ _ cs.to ct.to g1.symm;have ho:s.out=t.out:=by
  cases hf:s.final with
  |false=>rw[cs.fin hf,ct.fin (by rw[f1,hf])]
  |true=>
   rw[exp,exp,fins,fins,hf,f1,hf]at h;simp only[if_true,List.cons_append,List.nil_append,List.cons.injEq,Prod.mk.injEq,true_and]at h;exact h.1
 cases s;cases t;simp only at f1 ha ho;rw[f1,ha,ho]
end Fm
namespace Fm
open Go.Proofs.YtobjpljdgieklaaGreatDoor.Nums
inductive Sub:List En→List En→Prop
 |here (S:List En):Sub S (zAd S)
 |step {S R:List En} {p:Int×List En}:p∈grp (zAi S)→Sub p.2 R→Sub S R
structure Mkd(D:List (List En))(S:List En)(b:List St)(r:List St×Nat)(D':List (List En)):Prop where
 inv:Inv D' r.1
 ext:D<+:D'
 num:D'[r.2]?=some (zAd S)
 old:∀i,D[i]?=some (zAd S)→r=(b,i)∧D'=D
 sub:∀R∈D',R∈D∨Sub S R
 all:∀R,Sub S R→R∈D'
def Good(f:Nat)(S:List En):Prop:=S≠[]∧Rise S∧∀e∈S,e.1.length<f
structure MkdAll(base:Int)(D:List (List En))(gs:List (Int×List En))(b:List St)(r:List St×List Arc)(D':List (List En)):Prop where
 inv:Inv D' r.1
 ext:D<+:D'
 outs:outs D' r.2=gs.map fun p=>(p.1,zAh (-base) p.2)
 to:∀a∈r.2,a.to<D'.length
 old:(∀p∈gs,zAd p.2∈D)→r.1=b∧D'=D
 sub:∀R∈D',R∈D∨∃p∈gs,Sub p.2 R
 all:∀p∈gs,∀R,Sub p.2 R→R∈D'
theorem zHg{f:Nat}{base:Int}(ih:∀(D:List (List En)) (b:List St) (S:List En),Inv D b→Good f S→∃D',Mkd D S b (stF f b S) D'):
 ∀(gs:List (Int×List En)) (D:List (List En)) (b:List St),Inv D b→(∀p∈gs,Good f p.2)→∃D',MkdAll base D gs b (arF (stF f) base b gs) D'
 |[],D,b,hI,_=>⟨D,hI,List.prefix_refl _,rfl,fun a ha=>by simp[arF]at ha,fun _=>⟨rfl,rfl⟩,fun R hR => .inl hR,fun p hp=>by cases hp⟩
 |(c,G)::r,D,b,hI,hG=>by
  have hGG:=hG (c,G) (by simp);obtain⟨D1,M1⟩:=ih D b G hI hGG;obtain⟨D2,M2⟩:=zHg ih r D1 (stF f b G).1 M1.inv (fun p hp=>hG p (by simp[hp]));have hlt:(stF f b G).2<D1.length:=(List.getElem?_eq_some_iff.1 M1.num).1;refine⟨D2,?_⟩;rw[arF];refine⟨M2.inv,M1.ext.trans M2.ext,?_,fun a ha=>?_,fun h=>?_,fun R hR=>?_,fun p hp R hR=>?_⟩
  · have h2:=M2.outs
    simp only[Fm.outs,List.map_cons]at h2 ⊢;rw[h2,zKk M2.ext hlt,M1.num,Option.getD_some,zDm];congr 3;omega
  · rcases List.mem_cons.1 ha with rfl|ha
    · exact Nat.lt_of_lt_of_le hlt M2.ext.length_le
    · exact M2.to a ha
  · obtain⟨i,hi⟩:=List.mem_iff_getElem?.1 (h (c,G) (by simp))
    obtain⟨e1,e2⟩:=M1.old i hi;subst e2;(obtain⟨e3,e4⟩:=M2.old fun p hp=>h p (by simp[hp]));exact⟨by simp only;rw[e3,e1],e4⟩
  · rcases M2.sub R hR with h|⟨p,hp,h⟩
    · rcases M1.sub R h with h|h
      · exact .inl h
      · exact .inr ⟨(c,G),by simp,h⟩
    · exact .inr ⟨p,by simp[hp],h⟩
  · rcases List.mem_cons.1 hp with rfl|hp
    · exact M2.ext.subset (M1.all R hR)
    · exact M2.all p hp R hR
theorem zCu{f:Nat}{S:List En}(h:Good (f+1) S):∀p∈grp (zAi S),Good f p.2:=fun p hp=>by
 obtain⟨h0,hr,hl⟩:=h;obtain⟨h1,h2⟩:=zBi hr;have hsub:∀e∈zAi S,e∈S:=fun e he=>by
  cases S with
  |nil=>exact he
  |cons x r=>
   obtain⟨a,n⟩:=x;cases a with
   |nil=>exact .tail _ he
   |cons c t=>exact he
 refine⟨zJk _ _ (Nat.le_refl _) p hp,zG7 _ _ (Nat.le_refl _) h2 h1 p hp,fun e he=>?_⟩;have:=hl _ (hsub _ (zE6 h2 hp he));simp only[pre,List.length_cons]at this;omega
theorem zGm(S:List En)(arcs:List Arc):zAh (-least S) S=fins ⟨zCv S,zCh S,arcs⟩++zAh (-least S) (zAi S):=by
 cases S with
 |nil=>rfl
 |cons e r=>
  obtain⟨x,n⟩:=e;cases x with
  |nil=>simp only[zCv,zCh,fins,zAi,zAh,if_true,List.map_cons,List.cons_append,List.nil_append,Int.sub_eq_add_neg]
  |cons c t=>rfl
theorem zHt{D:List (List En)}{arcs:List Arc}{gs:List (Int×List En)}{n:Int}(h:outs D arcs=gs.map fun p=>(p.1,zAh n p.2))(hp:gs.Pairwise fun p q=>p.1<q.1):arcs.Pairwise fun a b=>a.label<b.label:=by
 have h2:(outs D arcs).map (·.1)=gs.map (·.1):=by rw[h,List.map_map];rfl
 have h3:(outs D arcs).map (·.1)=arcs.map (·.label):=by unfold outs;rw[List.map_map];rfl
 rw[h3]at h2;have h4:(gs.map (·.1)).Pairwise (·<·):=by rw[List.pairwise_map];exact hp
 rw[←h2,List.pairwise_map]at h4;exact h4
theorem zCe:∀(f:Nat) (D:List (List En)) (b:List St) (S:List En),Inv D b→Good f S→∃D',Mkd D S b (stF f b S) D'
 |0,_,_,S,_,h=>by
  obtain⟨h0,_,h2⟩:=h;cases S with
  |nil=>exact absurd rfl h0
  |cons e r=>exact absurd (h2 e (by simp)) (by omega)
 |f+1,D,b,S,hI,hG=>by
  obtain⟨hr1,hr2⟩:=zBi hG.2.1;have hgg:=zCu hG;have hfl:=zEp _ (zAi S) (Nat.le_refl _) hr2;have hlab:=(zEn _ (zAi S) (Nat.le_refl _) hr2 hr1).1;obtain⟨D1,M⟩:=zHg (base:=least S) (zCe f) (grp (zAi S)) D b hI hgg;rw[stF];generalize arF (stF f) (least S) b (grp (zAi S))=q at M;obtain⟨b1,arcs⟩:=q;simp only at M ⊢;obtain⟨s,hs⟩:∃s:St,s=⟨zCv S,zCh S,arcs⟩:=⟨_,rfl⟩;rw[←hs];have hcan:Canon D1 s:=by
   rw[hs];refine⟨zHt M.outs hlab,M.to,fun h=>?_⟩;cases S with
   |nil=>rfl
   |cons e r=>
    obtain⟨x,n⟩:=e;cases x with
    |nil=>cases h
    |cons c t=>rfl
  have hexp:exp D1 s=zAd S:=by
   rw[exp,zAd,zGm S arcs,hs,M.outs,←zGl,hfl]
  have hlen:D1.length=b1.length:=M.inv.len;have hold:∀i,D[i]?=some (zAd S)→b1=b∧D1=D∧b[i]?=some s:=fun i hi=>by
   have hil:=(List.getElem?_eq_some_iff.1 hi).1;obtain⟨t,ht⟩:∃t,b[i]?=some t:=⟨b[i]'(by have:=hI.len;omega),List.getElem?_eq_getElem _⟩;obtain⟨e1,e2,ct⟩:=hI.row i t ht;rw[hi]at e1;have e1':zAd S=exp D t:=Option.some.inj e1;obtain⟨g1,g2⟩:=zK5 hI.lv ct;rw[←e1',zAd,zD1,zH3]at g2;have hall:∀p∈grp (zAi S),zAd p.2∈D:=fun p hp=>by
    (have hp':(p.1,zAh (-least S) p.2)∈outs D t.arcs:=by rw[←g2];exact List.mem_map.2 ⟨p,hp,rfl⟩);obtain⟨a,ha,hae⟩:=List.mem_map.1 hp';have hal:=ct.to a ha;rw[List.getElem?_eq_getElem hal]at hae;simp only[Option.getD_some,Prod.mk.injEq]at hae;have hv:=hI.lv _ (List.getElem_mem hal);have:zAd p.2=D[a.to]:=by
     rw[←zE3 (-least S) (hgg p hp).1,←hae.2,zE3 _ hv.1,level_of hv.2]
    rw[this];exact List.getElem_mem _
   obtain⟨h1,h2⟩:=M.old hall;refine⟨h1,h2,?_⟩;rw[h2]at hexp hcan;rw[ht,zWh hI.nd hI.lv ct hcan (e1'.symm.trans hexp.symm)]
  unfold zDe;by_cases hmem:s∈b1
  · rw[if_pos hmem]
    have hidx:=List.idxOf_lt_length_of_mem hmem;(have hat:b1[b1.idxOf s]?=some s:=by rw[List.getElem?_eq_getElem hidx,List.getElem_idxOf]);obtain⟨e1,_,_⟩:=M.inv.row _ s hat;rw[hexp]at e1;refine⟨D1,M.inv,M.ext,e1,fun i hi=>?_,fun R hR=>?_,fun R hR=>?_⟩
    · obtain⟨h1,h2,h3⟩:=hold i hi
      refine⟨?_,h2⟩;subst h1;rw[h2]at e1;have hi2:=(List.getElem?_eq_some_iff.1 hi).1;have hi3:=(List.getElem?_eq_some_iff.1 e1).1;have:b1.idxOf s=i:=zGg hI.nd hi3 hi2 (by rw[e1,hi]);rw[this]
    · rcases M.sub R hR with h|⟨p,hp,h⟩
      · exact .inl h
      · exact .inr (.step hp h)
    · cases hR with
      |here=>exact List.mem_of_getElem? e1
      |step hp h=>exact M.all _ hp R h
  · rw[if_neg hmem]
    have hnew:zAd S∉D1:=fun h=>by
     obtain⟨j,hj⟩:=List.mem_iff_getElem?.1 h;have hjl:=(List.getElem?_eq_some_iff.1 hj).1;obtain⟨t,ht⟩:∃t,b1[j]?=some t:=⟨b1[j]'(by omega),List.getElem?_eq_getElem _⟩;obtain⟨e1,_,ct⟩:=M.inv.row j t ht;rw[hj]at e1;have:s=t:=zWh M.inv.nd M.inv.lv hcan ct (hexp.trans (Option.some.inj e1));exact hmem (this▸List.mem_of_getElem? ht)
    have hpre:D1<+:D1++[zAd S]:=List.prefix_append _ _;refine⟨D1++[zAd S],⟨by simp[hlen],fun i t hi=>?_,?_,fun R hR=>?_⟩,M.ext.trans hpre,?_,fun i hi=>?_,fun R hR=>?_,fun R hR=>?_⟩
    · by_cases hib:i<b1.length
      · rw[List.getElem?_append_left hib]at hi
        obtain⟨e1,e2,ct⟩:=M.inv.row i t hi;refine⟨?_,e2,ct.pre hpre⟩;rw[zKk hpre (by omega),e1,zH8 hpre ct.to]
      · rw[List.getElem?_append_right (by omega)]at hi
        cases hi0:i-b1.length with
        |zero=>
         rw[hi0]at hi;simp only[List.getElem?_cons_zero,Option.some.injEq]at hi;subst hi;refine⟨?_,fun a ha=>by have:=hcan.to a ha;omega,hcan.pre hpre⟩;rw[zH8 hpre hcan.to,hexp,List.getElem?_append_right (by omega),hlen,hi0];rfl
        |succ j=>rw[hi0]at hi;simp at hi
    · rw[List.nodup_append]
      exact⟨M.inv.nd,by simp,fun a ha c hc=>by rw[List.mem_singleton.1 hc];exact fun e=>hnew (e▸ha)⟩
    · rcases List.mem_append.1 hR with h|h
      · exact M.inv.lv R h
      · rw[List.mem_singleton.1 h]
        exact⟨zG4.2 hG.1,zE4 hG.1⟩
    · rw[List.getElem?_append_right (by omega),hlen]
      simp
    · obtain⟨h1,_,h3⟩:=hold i hi
      rw[h1]at hmem;exact absurd (List.mem_of_getElem? h3) hmem
    · rcases List.mem_append.1 hR with h|h
      · rcases M.sub R h with h|⟨p,hp,h⟩
        · exact .inl h
        · exact .inr (.step hp h)
      · rw[List.mem_singleton.1 h]
        exact .inr (.here S)
    · cases hR with
      |here=>simp
      |step hp h=>exact List.mem_append_left _ (M.all _ hp R h)
end Fm
section
open Go.RowKit Nums
def Row(w:World)(v:Value)(xs:List Int):Prop:=
 ∃ao cap,v = .slice ao xs.length cap∧(0<xs.length→∃b off,ao=some ⟨b,off,none⟩∧∀i,i<xs.length→w.cell? ⟨b,off+i,none⟩=some (.int .i32 (xs.getD i 0)))
theorem Bytes.back{B:Nat}{w:World}{v:Value}{xs:List Int}(h:Bytes B w v xs):(convert 68 9 v).run Tryz.prog w = .ok (.string (strOfNums xs)) w:=by
 obtain⟨hl,hn|⟨g,cap,cur,rfl,hb,hg,h1,h2,h3,h4⟩⟩:=h
 · obtain⟨rfl,h0⟩:=hn
   have e:xs=[]:=List.length_eq_zero_iff.1 h0;subst e;exact run_convert_bytes_nil w 68 5 Tryz.underlying68 Tryz.underlying5 0 0 9 Tryz.underlying9
 · refine run_convert_bytes_arg w 68 5 Tryz.underlying68 Tryz.underlying5 g 0 xs.length cap xs rfl (fun i hi=>?_) 9 Tryz.underlying9
   have hc:cur[i]?=some (.int .u8 (xs.getD i 0)):=by
    (have e:(cur.toList.take (xs.length*1))[i]?=(xs.map (Value.int .u8))[i]?:=by rw[h4]);rw[List.getElem?_take,if_pos (by omega)]at e;rw[←Array.getElem?_toList,e,List.getElem?_map,List.getElem?_eq_getElem hi];simp[List.getD_eq_getElem?_getD,List.getElem?_eq_getElem hi]
   simp only[World.cell?,hg,Nat.zero_add];simpa using hc
def allR(xs:List Int):Bool:=xs.all isR
def zAv(xs:List Int):ByteArray:=if allR xs=true then strOfNums (xs.flatMap wrI)else ByteArray.empty
theorem zK3(xs:List Int):(xs.flatMap wrI).length≤4*xs.length:=by
 induction xs with
 |nil=>simp
 |cons x r ih=>have:=zJx x;rw[List.flatMap_cons,List.length_append,List.length_cons];omega
theorem zTn(xs:List Int)(k:Nat)(h:k<xs.length):xs.take (k+1)=xs.take k++[xs.getD k 0]:=by
 rw[List.take_succ_eq_append_getElem h];simp[List.getD_eq_getElem?_getD,List.getElem?_eq_getElem h]
theorem text_no{xs:List Int}{k:Nat}(h:k<xs.length)(hr:isR (xs.getD k 0)=false):allR xs=false:=by
 have hm:xs.getD k 0∈xs:=by simp[List.getD_eq_getElem?_getD,List.getElem?_eq_getElem h]
 cases e:allR xs
 · rfl
 · have:=List.all_eq_true.1 e _ hm;rw[hr]at this;cases this
theorem zVs{r:Int}(h:isR r=true):0≤r∧r<1114112:=by
 have:=of_decide_eq_true h;omega
theorem zLg(v:Value)(xs:List Int)(w:World)(ht:Tabs w)(hrow:Row w v xs)(hl:xs.length*4≤140737488355328):
 Calls Tryz.prog 153 #[v] w fun e w'=>e = .returned (.tuple #[.string (zAv xs),.bool (allR xs)])∧Below w.heap.size w w':=by
 obtain⟨i0,hi,hz0,hz1,hz2⟩:=info_parts zFu;obtain⟨ao,cap,rfl,hcells⟩:=hrow;have HC:Hid (0<xs.length→∃b off,ao=some ⟨b,off,none⟩∧∀i,i<xs.length→w.cell? ⟨b,off+i,none⟩=some (.int .i32 (xs.getD i 0))):=hcells;clear hcells;go_enter Tryz.func153,Tryz.ntmps153;go_wp2_with (at_make;refine wpList_make_own _ rfl _ _ 68 rfl w.heap.size 5 i0 (.int .u8 0) 1 Tryz.underlying68 hi hz0 hz1 _ _ _ xs.length rfl rfl (by omega) (by rw[hz2];omega) (by unfold maxLen;omega) (Nat.le_refl _) ?_;intro w0 hown0 hgrow0);have hb0:Below w.heap.size w w0:=(Below.refl _ _).grown hgrow0 (Nat.le_refl _) (fun k hk=>by cases hk);have HO0:Hid (Bytes w.heap.size w0 (.slice (some ⟨w.heap.size,0,none⟩) 0 xs.length) []):=hown0;clear hown0 hgrow0
 go_loopw [4,12] (fun vb i wr=>∃k:Nat,k≤xs.length∧i = .int .i64 k∧Bytes w.heap.size wr vb ((xs.take k).flatMap wrI)∧allR (xs.take k)=true∧Below w.heap.size w wr)
  (fun _ i _=>xs.length-(intOf i).toNat)
 case atStart=>exact⟨0,Nat.zero_le _,rfl,HO0.out,rfl,hb0⟩
 case round=>
  obtain⟨k,hk,rfl,hown,hall,hbel⟩:=hrel;have HA:Hid (allR (xs.take k)=true):=hall;clear hall;have htr:Tabs wr:=ht.below hbel;by_cases hlt:k<xs.length
  · obtain⟨b,off,rfl,hc⟩:=HC.out (by omega)
    have hck:wr.cell? ⟨b,off+k,none⟩=some (.int .i32 (xs.getD k 0)):=by
     rw[hbel.cell (p:=⟨b,off+k,none⟩) (zAp (hc k hlt))];exact hc k hlt
    clear hc HC HO0;have hnx:=zTn xs k hlt;generalize hx:xs.getD k 0=x at *;have HX:Hid (xs.getD k 0=x):=hx;have HN:Hid (xs.take (k+1)=xs.take k++[x]):=hnx;clear hnx hx;cases hr:isR x
    · have HR:Hid (isR x=false):=hr
      clear hr;have HF:Hid (allR xs=false):=text_no hlt (by rw[HX.out];exact HR.out);go_wp2_with (go_at_call 132;refine(zDh _ _).mono ?_;rintro e w' ⟨rfl,rfl⟩;rw[HR.out]);go_ret2;refine⟨?_,hbel⟩;rw[HF.out,show zAv xs=ByteArray.empty by unfold zAv;rw[HF.out];rfl];rfl
    · have HR:Hid (isR x=true):=hr
      clear hr;have hbd:=zVs HR.out;have hfl:=zK3 (xs.take k);rw[List.length_take]at hfl
      go_wp2_with (first
       |(go_at_call 132;refine(zDh _ _).mono ?_;rintro e w' ⟨rfl,rfl⟩;rw[HR.out])
       |(go_at_call 176;refine(zIy w.heap.size _ ((xs.take k).flatMap wrI) x _ htr hown hbel.size (by omega) hbd.1 hbd.2).mono ?_;rintro e w1 ⟨v1,rfl,hown1,hb1⟩))
      go_roundw
      case rel=>
       refine⟨k+1,by omega,by go_num,?_,?_,hbel.trans hb1⟩
       · rw[HN.out,List.flatMap_append];simpa using hown1
       · rw[HN.out];have:=HA.out;unfold allR at *;rw[List.all_append,this];simp[HR.out]
      case measure=>simp[intOf];omega
  · obtain rfl:k=xs.length:=by omega
    have hfull:xs.take xs.length=xs:=List.take_length;(have HO:Hid (Bytes w.heap.size wr u4 (xs.flatMap wrI)):=by rw[hfull]at hown;exact hown);(have HF:Hid (allR xs=true):=by have:=HA.out;rw[hfull]at this;exact this);have hconv:=HO.out.back;clear hfull hown HA;go_wp2;go_ret2;refine⟨?_,hbel⟩;rw[HF.out,show zAv xs=strOfNums (xs.flatMap wrI)by unfold zAv;rw[HF.out];rfl];rfl
end
