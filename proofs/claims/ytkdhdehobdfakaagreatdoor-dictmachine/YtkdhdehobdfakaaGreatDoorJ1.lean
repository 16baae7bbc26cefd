import Derived.WalkKit
import Derived.Sort.LotA
set_option maxRecDepth 100000
set_option maxHeartbeats 8000000
namespace Go.Proofs.YtkdhdehobdfakaaGreatDoor
namespace Pm
structure STO{κ:Type}(less:κ→κ→Bool):Prop where
 irr:∀a,less a a=false
 tr:∀a b c,less a b=true→less b c=true→less a c=true
 tot:∀a b,less a b=false→less b a=false→a=b
section
variable {κ:Type} {less:κ→κ→Bool}
theorem STO.asymm(h:STO less){a b:κ}(hab:less a b=true):less b a=false:=by
 cases e:less b a with
 |false=>rfl
 |true=>have:=h.tr a b a hab e;rw[h.irr]at this;cases this
theorem STO.ntr(h:STO less){a b c:κ}(h1:less b a=false)(h2:less c b=false):less c a=false:=by
 cases e:less c a with
 |false=>rfl
 |true=>
  cases e2:less a b with
  |true=>have:=h.tr c a b e e2;rw[h2]at this;cases this
  |false=>have:=h.tot a b e2 h1;subst this;rw[e]at h2;cases h2
theorem STO.ne(h:STO less){a b:κ}(hab:less a b=true):a≠b:=fun e=>by subst e;rw[h.irr]at hab;cases hab
def Up(less:κ→κ→Bool)(l:List (κ×Int)):Prop:=l.Pairwise fun x y=>less y.1 x.1=false
def SUp(less:κ→κ→Bool)(l:List (κ×Int)):Prop:=l.Pairwise fun x y=>less x.1 y.1=true
theorem SUp.up(o:STO less){l:List (κ×Int)}(h:SUp less l):Up less l:=h.imp fun h=>o.asymm h
def keep(l:List (κ×Int)):List (κ×Int):=l.filter fun x=>!(x.2==0)
theorem zWr{l:List (κ×Int)}(h:SUp less l):SUp less (keep l):=h.filter _
end
variable {κ:Type} [DecidableEq κ] {less:κ→κ→Bool}
def of(k:κ)(l:List (κ×Int)):List (κ×Int):=l.filter fun x=>decide (x.1=k)
theorem of_append(k:κ)(a b:List (κ×Int)):of k (a++b)=of k a++of k b:=List.filter_append ..
theorem of_cons_same(x:κ×Int)(l:List (κ×Int)):of x.1 (x::l)=x::of x.1 l:=by simp[of]
theorem of_cons_ne{k:κ}{x:κ×Int}(h:x.1≠k)(l:List (κ×Int)):of k (x::l)=of k l:=by simp[of,h]
def find(l:List (κ×Int))(k:κ):Option Int:=((of k l).getLast?).map Prod.snd
theorem zEw(k:κ):find ([]:List (κ×Int)) k=none:=rfl
theorem zDt(a b:List (κ×Int))(k:κ):find (a++b) k=(find b k).or (find a k):=by
 unfold find;rw[of_append,List.getLast?_append];cases(of k b).getLast?<;>simp
theorem zF4(x:κ×Int)(k:κ):find [x] k=if x.1=k then some x.2 else none:=by
 unfold find of;by_cases h:x.1=k<;>simp[h]
theorem find_cons(x:κ×Int)(l:List (κ×Int))(k:κ):find (x::l) k=(find l k).or (if x.1=k then some x.2 else none):=by
 rw[←List.singleton_append,zDt,zF4]
theorem find_snoc(x:κ×Int)(l:List (κ×Int))(k:κ):find (l++[x]) k=if x.1=k then some x.2 else find l k:=by
 rw[zDt,zF4];by_cases h:x.1=k<;>simp[h]
theorem zAy{l:List (κ×Int)}{k:κ}(h:∀x∈l,x.1≠k):find l k=none:=by
 induction l with
 |nil=>rfl
 |cons x r ih=>rw[find_cons,ih fun y hy=>h y (List.mem_cons_of_mem _ hy),if_neg (h x (List.mem_cons_self ..))];rfl
theorem find_mem{l:List (κ×Int)}{k:κ}{v:Int}(h:find l k=some v):(k,v)∈l:=by
 induction l with
 |nil=>cases h
 |cons x r ih=>
  rw[find_cons]at h;cases e:find r k with
  |some u=>rw[e]at h;simp at h;subst h;exact List.mem_cons_of_mem _ (ih e)
  |none=>
   rw[e]at h;by_cases hk:x.1=k
   · simp[hk]at h;subst hk;subst h;exact List.mem_cons_self ..
   · simp[hk]at h
theorem SUp.find_of_mem(o:STO less){l:List (κ×Int)}(h:SUp less l){x:κ×Int}(hx:x∈l):find l x.1=some x.2:=by
 induction l with
 |nil=>cases hx
 |cons y r ih=>
  obtain⟨h1,h2⟩:=List.pairwise_cons.1 h;rw[find_cons];rcases List.mem_cons.1 hx with rfl|hm
  · rw[zAy fun z hz=>(o.ne (h1 z hz)).symm];simp
  · rw[ih h2 hm];rfl
theorem SUp.ext(o:STO less):∀{a b:List (κ×Int)},SUp less a→SUp less b→(∀k,find a k=find b k)→a=b
 |[],[],_,_,_=>rfl
 |[],y::b,_,h2,h=>by
  have:=h y.1;rw[SUp.find_of_mem o h2 (List.mem_cons_self ..)]at this;cases this
 |x::a,[],h1,_,h=>by
  have:=h x.1;rw[SUp.find_of_mem o h1 (List.mem_cons_self ..)]at this;cases this
 |x::a,y::b,h1,h2,h=>by
  obtain⟨p1,p2⟩:=List.pairwise_cons.1 h1;obtain⟨q1,q2⟩:=List.pairwise_cons.1 h2;have e1:=h x.1;have e2:=h y.1;rw[SUp.find_of_mem o h1 (List.mem_cons_self ..)]at e1;rw[SUp.find_of_mem o h2 (List.mem_cons_self ..)]at e2;have m1:=find_mem e1.symm;have m2:=find_mem e2;have hxy:x=y:=by
   rcases List.mem_cons.1 m1 with c|c
   · rw[←c]
   · rcases List.mem_cons.1 m2 with d|d
     · rw[←d]
     · have:=o.tr _ _ _ (p1 _ d) (q1 _ c);simp[o.irr]at this
  subst hxy;congr 1;refine SUp.ext o p2 q2 fun k=>?_
  have hk:=h k;rw[find_cons,find_cons]at hk;by_cases hx:x.1=k
  · subst hx
    rw[zAy fun z hz=>(o.ne (p1 z hz)).symm,zAy fun z hz=>(o.ne (q1 z hz)).symm]
  · simpa[hx]using hk
def Stably(less:κ→κ→Bool)(l l':List (κ×Int)):Prop:=Up less l'∧∀k,of k l'=of k l
theorem Stably.find{l l':List (κ×Int)}(h:Stably less l l')(k:κ):Pm.find l' k=Pm.find l k:=by unfold Pm.find;rw[h.2]
def zCc:List (κ×Int)→List (κ×Int)
 |[]=>[]
 |[x]=>[x]
 |x::y::r=>if y.1=x.1 then zCc (y::r)else x::zCc (y::r)
theorem zId:∀(l:List (κ×Int)),∀x∈zCc l,x∈l
 |[],x,h=>h
 |[y],x,h=>h
 |y::z::r,x,h=>by
  rw[zCc]at h
  split at h
  · exact List.mem_cons_of_mem _ (zId _ x h)
  · rcases List.mem_cons.1 h with rfl|h
    · exact List.mem_cons_self ..
    · exact List.mem_cons_of_mem _ (zId _ x h)
theorem zRh(o:STO less):∀(l:List (κ×Int)),Up less l→SUp less (zCc l)∧∀k,find (zCc l) k=find l k
 |[],_=>⟨List.Pairwise.nil,fun _=>rfl⟩
 |[x],_=>⟨List.pairwise_singleton ..,fun _=>rfl⟩
 |x::y::r,h=>by
  obtain⟨h1,h2⟩:=List.pairwise_cons.1 h;obtain⟨i1,i2⟩:=zRh o (y::r) h2;rw[zCc]
  split
  · next e=>
    refine⟨i1,fun k=>?_⟩;rw[i2,find_cons x,find_cons y];by_cases hk:x.1=k
    · rw[if_pos (e.trans hk)]
      cases find r k<;>rfl
    · rw[if_neg hk];simp
  · next e=>
    refine⟨List.pairwise_cons.2 ⟨fun z hz=>?_,i1⟩,fun k=>by rw[find_cons,find_cons x,i2]⟩;have hxy:less x.1 y.1=true:=by
     cases e3:less x.1 y.1 with
     |true=>rfl
     |false=>exact absurd (o.tot _ _ (h1 y (List.mem_cons_self ..)) e3) e
    rcases List.mem_cons.1 (zId _ z hz)with rfl|hm
    · exact hxy
    · have hyz:less z.1 y.1=false:=(List.pairwise_cons.1 h2).1 z hm
      cases e4:less x.1 z.1 with
      |true=>rfl
      |false=>
       have:=o.ntr (a:=y.1) (b:=z.1) (c:=x.1) hyz e4;rw[hxy]at this;cases this
def putP(less:κ→κ→Bool)(p:κ×Int):Bool→List (κ×Int)→List (κ×Int)
 |done,[]=>if done then []else [p]
 |done,x::r=>(if !done&&!(less x.1 p.1)then [p]else [])++((if x.1≠p.1 then [x]else [])++putP less p (done||!(less x.1 p.1)) r)
theorem zD6(o:STO less)(p:κ×Int):∀(l:List (κ×Int)),SUp less l→(∀x∈l,less p.1 x.1=true)→putP less p true l=l
 |[],_,_=>rfl
 |x::r,h,hx=>by
  have h0:=hx x (List.mem_cons_self ..);rw[putP];simp only[Bool.not_true,Bool.false_and,Bool.false_eq_true,if_false,List.nil_append,Bool.true_or];rw[if_pos (o.ne h0).symm,zD6 o p r (List.pairwise_cons.1 h).2 fun y hy=>hx y (List.mem_cons_of_mem _ hy)];rfl
theorem zK2(o:STO less)(p:κ×Int):∀(l:List (κ×Int)),SUp less l→SUp less (putP less p false l)∧(∀x∈putP less p false l,x=p∨x∈l)∧∀k,find (putP less p false l) k=if p.1=k then some p.2 else find l k
 |[],_=>⟨List.pairwise_singleton ..,fun x hx => .inl (by simpa[putP]using hx),fun k=>by rw[show putP less p false []=[p]from rfl,zF4,zEw]⟩
 |x::r,h=>by
  obtain⟨h1,h2⟩:=List.pairwise_cons.1 h;obtain⟨i1,i2,i3⟩:=zK2 o p r h2;cases e:less x.1 p.1 with
  |true=>
   have hne:=o.ne e;(have he:putP less p false (x::r)=x::putP less p false r:=by rw[putP];simp[e,hne]);rw[he];refine⟨List.pairwise_cons.2 ⟨fun z hz=>?_,i1⟩,fun z hz=>?_,fun k=>?_⟩
   · rcases i2 z hz with rfl|hm
     · exact e
     · exact h1 z hm
   · rcases List.mem_cons.1 hz with rfl|hm
     · exact .inr (List.mem_cons_self ..)
     · rcases i2 z hm with c|c
       · exact .inl c
       · exact .inr (List.mem_cons_of_mem _ c)
   · rw[find_cons,find_cons,i3]
     by_cases hk:p.1=k
     · simp[hk]
     · simp[hk]
  |false=>
   by_cases hx:x.1=p.1
   · have hd:=zD6 o p r h2 fun y hy=>by rw[←hx];exact h1 y hy
     (have he:putP less p false (x::r)=p::r:=by rw[putP,if_neg (show ¬x.1≠p.1 from fun h=>h hx),e];simp[hd]);rw[he];refine⟨List.pairwise_cons.2 ⟨fun z hz=>by rw[←hx];exact h1 z hz,h2⟩,fun z hz=>?_,fun k=>?_⟩
     · rcases List.mem_cons.1 hz with rfl|hm
       · exact .inl rfl
       · exact .inr (List.mem_cons_of_mem _ hm)
     · rw[find_cons,find_cons]
       by_cases hk:p.1=k
       · rw[zAy fun z hz=>by rw[←hk,←hx];exact(o.ne (h1 z hz)).symm];simp[hk]
       · have hk2:¬x.1=k:=by rw[hx];exact hk
         simp[hk,hk2]
   · have hpx:less p.1 x.1=true:=by
      cases e2:less p.1 x.1 with
      |true=>rfl
      |false=>exact absurd (o.tot _ _ e e2) hx
     (have hd:=zD6 o p r h2 fun y hy=>o.tr _ _ _ hpx (h1 y hy));(have he:putP less p false (x::r)=p::x::r:=by rw[putP];simp[e,hx,hd]);rw[he];refine⟨List.pairwise_cons.2 ⟨fun z hz=>?_,h⟩,fun z hz=>?_,fun k=>?_⟩
     · rcases List.mem_cons.1 hz with rfl|hm
       · exact hpx
       · exact o.tr _ _ _ hpx (h1 z hm)
     · rcases List.mem_cons.1 hz with rfl|hm
       · exact .inl rfl
       · exact .inr hm
     · rw[find_cons]
       by_cases hk:p.1=k
       · have:find (x::r) k=none:=zAy fun z hz=>by
          rw[←hk];rcases List.mem_cons.1 hz with rfl|hm
          · exact(o.ne hpx).symm
          · exact(o.ne (o.tr _ _ _ hpx (h1 z hm))).symm
         rw[this];simp[hk]
       · simp[hk]
def put(less:κ→κ→Bool)(l:List (κ×Int))(p:κ×Int):List (κ×Int):=putP less p false l
theorem zVc(p x:κ×Int)(done:Bool)(acc r:List (κ×Int)):acc++putP less p done (x::r)=(acc++(if !done&&!(less x.1 p.1)then [p]else [])++(if x.1≠p.1 then [x]else []))++putP less p (done||!(less x.1 p.1)) r:=by
 rw[putP];simp only[List.append_assoc]
def norm(less:κ→κ→Bool)(l:List (κ×Int)):List (κ×Int):=l.foldl (put less) []
theorem zPf(o:STO less):∀(l a:List (κ×Int)),SUp less a→SUp less (l.foldl (put less) a)∧∀k,find (l.foldl (put less) a) k=(find l k).or (find a k)
 |[],a,h=>⟨h,fun k=>rfl⟩
 |x::r,a,h=>by
  obtain⟨i1,_,i2⟩:=zK2 o x a h;obtain⟨j1,j2⟩:=zPf o r (put less a x) i1;refine⟨j1,fun k=>?_⟩;rw[List.foldl_cons,j2,find_cons,put,i2];cases find r k with
  |some v=>rfl
  |none=>by_cases hk:x.1=k<;>simp[hk]
theorem zEa(o:STO less)(l:List (κ×Int)):SUp less (norm less l):=(zPf o l [] List.Pairwise.nil).1
theorem zCq(o:STO less)(l:List (κ×Int))(k:κ):find (norm less l) k=find l k:=by
 rw[norm,(zPf o l [] List.Pairwise.nil).2,zEw];cases find l k<;>rfl
theorem zI6(o:STO less){l l':List (κ×Int)}(h:Stably less l l'):zCc l'=norm less l:=by
 obtain⟨h1,h2⟩:=zRh o l' h.1;exact SUp.ext o h1 (zEa o l) fun k=>by rw[h2,zCq o,h.find]
theorem zWt(o:STO less){l:List (κ×Int)}(h:SUp less l)(k:κ):find (keep l) k=(find l k).filter fun v=>!(v==0):=by
 cases e:find l k with
 |none=>
  refine zAy fun x hx hk=>?_
  have hm:=(List.mem_filter.1 hx).1;have:=SUp.find_of_mem o h hm;rw[hk,e]at this;cases this
 |some v=>
  have hm:=find_mem e;by_cases h0:v=0
  · subst h0
    simp only[Option.filter];(refine zAy fun x hx hk=>?_);have hx2:=List.mem_filter.1 hx;have:=SUp.find_of_mem o h hx2.1;rw[hk,e]at this;simp only[Option.some.injEq]at this;rw[←this]at hx2;simp at hx2
  · have hmk:(k,v)∈keep l:=List.mem_filter.2 ⟨hm,by simpa using h0⟩
    have:=SUp.find_of_mem o (zWr (less:=less) h) hmk;rw[this];simp[Option.filter,h0]
def zAe(less:κ→κ→Bool)(a b:List (κ×Int)):List (κ×Int):=keep (norm less (a++b))
theorem zBp(o:STO less)(a b:List (κ×Int)):SUp less (zAe less a b):=zWr (zEa o _)
theorem zA2(o:STO less)(a b:List (κ×Int))(k:κ):find (zAe less a b) k=((find b k).or (find a k)).filter fun v=>!(v==0):=by
 rw[zAe,zWt o (zEa o _),zCq o,zDt]
theorem zH9(o:STO less)(a b c:List (κ×Int)):zAe less (zAe less a b) c=zAe less a (b++c):=by
 refine SUp.ext o (zBp o _ _) (zBp o _ _) fun k=>?_
 rw[zA2 o,zA2 o,zA2 o,zDt];cases find c k with
 |some v=>rfl
 |none=>
  simp only[Option.none_or];cases(find b k).or (find a k)with
  |none=>rfl
  |some v=>by_cases h:v=0<;>simp[Option.filter,h]
end Pm
namespace Pm
open Go.Sort
section
variable {α:Type}
theorem zG8(l:List α)(n:Nat)(h:n≤l.length):∃a b,l=a++b∧a.length=n:=⟨l.take n,l.drop n,(List.take_append_drop n l).symm,by simp;omega⟩
theorem zPm(l:List α)(n:Nat)(h:n<l.length):∃a x b,l=a++x::b∧a.length=n:=by
 refine⟨l.take n,l[n],l.drop (n+1),?_,by simp;omega⟩;rw[←List.drop_eq_getElem_cons h,List.take_append_drop]
theorem zRz(l:List α)(h:0<l.length):∃a x,l=a++[x]:=by
 obtain⟨a,x,b,e,hl⟩:=zPm l (l.length-1) (by omega);have h2:l.length=a.length+(b.length+1):=by rw[e];simp
 have:b=[]:=List.eq_nil_of_length_eq_zero (by omega);exact⟨a,x,by rw[e,this]⟩
end
section
variable {κ:Type} {less:κ→κ→Bool}
theorem up_le(o:STO less){L R:List (κ×Int)}{x y:κ×Int}(hL:Up less (L++[x]))(hR:Up less (y::R))(h:less y.1 x.1=false):∀u∈L++[x],∀v∈y::R,less v.1 u.1=false:=by
 obtain⟨_,_,pL⟩:=List.pairwise_append.1 hL;obtain⟨pR,_⟩:=List.pairwise_cons.1 hR;have hux:∀u∈L++[x],less y.1 u.1=false:=fun u hu=>by
  rcases List.mem_append.1 hu with a|a
  · exact o.ntr (pL u a x (List.mem_singleton.2 rfl)) h
  · rw[List.mem_singleton.1 a];exact h
 intro u hu v hv;rcases List.mem_cons.1 hv with rfl|b
 · exact hux u hu
 · exact o.ntr (hux u hu) (pR v b)
theorem up_lt(o:STO less){L R:List (κ×Int)}{x y:κ×Int}(hR:Up less (R++[y]))(hL:Up less (x::L))(h:less y.1 x.1=true):∀u∈R++[y],∀v∈x::L,less u.1 v.1=true:=by
 obtain⟨_,_,pR⟩:=List.pairwise_append.1 hR;obtain⟨pL,_⟩:=List.pairwise_cons.1 hL;have hux:∀u∈R++[y],less u.1 x.1=true:=fun u hu=>by
  rcases List.mem_append.1 hu with a|a
  · have h1:=pR u a y (List.mem_singleton.2 rfl)
    cases e:less u.1 x.1 with
    |true=>rfl
    |false=>have:=o.ntr e h1;rw[h]at this;cases this
  · rw[List.mem_singleton.1 a];exact h
 intro u hu v hv;rcases List.mem_cons.1 hv with rfl|b
 · exact hux u hu
 · have h1:=pL v b
   have h2:=hux u hu;cases e:less u.1 v.1 with
   |true=>rfl
   |false=>have:=o.ntr h1 e;rw[h2]at this;cases this
end
section
variable {α:Type} [Inhabited α]
theorem swp_list(P Q S:List α)(x y:α):swp (P++x::(Q++y::S)).toArray P.length (P.length+1+Q.length)=(P++y::(Q++x::S)).toArray:=by
 have e1:(P++x::(Q++y::S)).toArray[P.length]! = x:=by simp
 have e2:(P++x::(Q++y::S)).toArray[P.length+1+Q.length]! = y:=by
  simp[Nat.add_assoc,Nat.add_comm 1]
 unfold swp;rw[e1,e2];apply Array.ext';simp only[List.setIfInBounds_toArray];rw[List.set_append_right _ _ (Nat.le_refl _),Nat.sub_self,List.set_cons_zero,List.set_append_right _ _ (by omega),show P.length+1+Q.length-P.length=Q.length+1 by omega,List.set_cons_succ,List.set_append_right _ _ (Nat.le_refl _),Nat.sub_self,List.set_cons_zero]
theorem get_mid(P S:List α)(x:α):(P++x::S).toArray[P.length]! = x:=by simp
theorem get_at(l P S:List α)(x:α)(i:Nat)(h:l=P++x::S)(hi:i=P.length):l.toArray[i]! = x:=by subst h;subst hi;exact get_mid P S x
theorem swp_at(l P Q S:List α)(x y:α)(i j:Nat)(h:l=P++x::(Q++y::S))(hi:i=P.length)(hj:j=P.length+1+Q.length):swp l.toArray i j=(P++y::(Q++x::S)).toArray:=by subst h;subst hi;subst hj;exact swp_list P Q S x y
end
variable {κ:Type} [DecidableEq κ] {less:κ→κ→Bool}
theorem Stably.self{l:List (κ×Int)}(h:Up less l):Stably less l l:=⟨h,fun _=>rfl⟩
theorem Stably.trans{a b c:List (κ×Int)}(h1:∀k,of k b=of k a)(h2:Stably less b c):Stably less a c:=⟨h2.1,fun k=>(h2.2 k).trans (h1 k)⟩
theorem of_mem{k:κ}{l:List (κ×Int)}{x:κ×Int}:x∈of k l↔x∈l∧x.1=k:=by simp[of]
theorem mem_of_same{a b:List (κ×Int)}(h:∀k,of k b=of k a){x:κ×Int}(hx:x∈b):x∈a:=by
 have:x∈of x.1 b:=of_mem.2 ⟨hx,rfl⟩;rw[h]at this;exact(of_mem.1 this).1
theorem of_len(a:List (κ×Int)):∀b:List (κ×Int),(∀k,of k b=of k a)→b.length=a.length:=by
 induction a with
 |nil=>
  intro b h;cases b with
  |nil=>rfl
  |cons x r=>have:=h x.1;rw[of_cons_same]at this;cases this
 |cons y a ih=>
  intro b h;have hy:y∈b:=by
   (have:y∈of y.1 b:=by rw[h,of_cons_same];exact List.mem_cons_self ..);exact(of_mem.1 this).1
  have key:∀b:List (κ×Int),of y.1 b=y::of y.1 a→∃p q,b=p++y::q∧of y.1 p=[]∧of y.1 q=of y.1 a:=by
   intro b
   induction b with
   |nil=>intro h;cases h
   |cons z r ih2=>
    intro h;by_cases hz:z.1=y.1
    · rw[←hz,of_cons_same,hz]at h
      simp only[List.cons.injEq]at h;obtain⟨rfl,h2⟩:=h;exact⟨[],r,rfl,rfl,h2⟩
    · rw[of_cons_ne hz]at h
      obtain⟨p,q,rfl,h1,h2⟩:=ih2 h;exact⟨z::p,q,rfl,by rw[of_cons_ne hz];exact h1,h2⟩
  obtain⟨p,q,rfl,h1,h2⟩:=key b (by rw[h,of_cons_same]);have hpq:∀k,of k (p++q)=of k a:=fun k=>by
   by_cases hk:y.1=k
   · subst hk;rw[of_append,h1,h2];rfl
   · have:=h k
     rw[of_append,of_cons_ne hk,of_cons_ne hk]at this;rw[of_append];exact this
  have:=ih (p++q) hpq;simp at this ⊢;omega
theorem Stably.len{a b:List (κ×Int)}(h:Stably less a b):b.length=a.length:=of_len a b h.2
theorem of_comm(o:STO less){x y:List (κ×Int)}(h:∀u∈x,∀v∈y,less u.1 v.1=true)(k:κ):of k (x++y)=of k (y++x):=by
 rw[of_append,of_append];cases e:of k x with
 |nil=>simp
 |cons u r=>
  have hu:u∈of k x:=by rw[e];exact List.mem_cons_self ..
  have e2:of k y=[]:=by
   cases e3:of k y with
   |nil=>rfl
   |cons v s=>
    (have hv:v∈of k y:=by rw[e3];exact List.mem_cons_self ..);obtain⟨u1,u2⟩:=of_mem.1 hu;obtain⟨v1,v2⟩:=of_mem.1 hv;have:=h u u1 v v1;rw[u2,v2,o.irr]at this;cases this
  rw[e2];simp
theorem Stably.join{a b c d:List (κ×Int)}(h1:Stably less a c)(h2:Stably less b d)(h:∀x∈a,∀y∈b,less y.1 x.1=false):Stably less (a++b) (c++d):=by
 refine⟨List.pairwise_append.2 ⟨h1.1,h2.1,fun x hx y hy=>h x (mem_of_same h1.2 hx) y (mem_of_same h2.2 hy)⟩,fun k=>?_⟩;rw[of_append,of_append,h1.2,h2.2]
theorem insert_left(o:STO less){x:κ×Int}{a b:List (κ×Int)}(hup:Up less (a++b))(h1:∀u∈a,less u.1 x.1=true)(h2:∀u∈b,less u.1 x.1=false):Stably less (x::(a++b)) (a++x::b):=by
 obtain⟨p1,p2,p3⟩:=List.pairwise_append.1 hup;refine⟨List.pairwise_append.2 ⟨p1,List.pairwise_cons.2 ⟨h2,p2⟩,fun u hu v hv=>?_⟩,fun k=>?_⟩
 · rcases List.mem_cons.1 hv with rfl|hv
   · exact o.asymm (h1 u hu)
   · exact p3 u hu v hv
 · have:=of_comm o (x:=a) (y:=[x]) (fun u hu v hv=>by rw[List.mem_singleton.1 hv];exact h1 u hu) k
   rw[show a++x::b=(a++[x])++b by simp,show x::(a++b)=([x]++a)++b by simp,of_append,this,←of_append]
theorem insert_right(o:STO less){y:κ×Int}{a b:List (κ×Int)}(hup:Up less (a++b))(h1:∀u∈a,less y.1 u.1=false)(h2:∀u∈b,less y.1 u.1=true):Stably less (a++b++[y]) (a++y::b):=by
 obtain⟨p1,p2,p3⟩:=List.pairwise_append.1 hup;refine⟨List.pairwise_append.2 ⟨p1,List.pairwise_cons.2 ⟨fun u hu=>o.asymm (h2 u hu),p2⟩,fun u hu v hv=>?_⟩,fun k=>?_⟩
 · rcases List.mem_cons.1 hv with rfl|hv
   · exact h1 u hu
   · exact p3 u hu v hv
 · have:=of_comm o (x:=[y]) (y:=b) (fun u hu v hv=>by rw[List.mem_singleton.1 hu];exact h2 v hv) k
   rw[show a++y::b=a++([y]++b)by simp,show a++b++[y]=a++(b++[y])by simp,of_append,this,←of_append]
theorem turned(o:STO less){L1 L2 R1 R2 X Y:List (κ×Int)}(hL:Up less (L1++L2))(hR:Up less (R1++R2))(h1:∀u∈L1,∀v∈R2,less v.1 u.1=false)(h2:∀u∈R1,∀v∈L2,less u.1 v.1=true)
 (hX:Stably less (L1++R1) X) (hY:Stably less (L2++R2) Y):Stably less (L1++L2++(R1++R2)) (X++Y):=by
 refine Stably.trans (b:=L1++R1++(L2++R2)) (fun k=>?_) (hX.join hY fun x hx y hy=>?_)
 · have:=of_comm o h2 k
   simp only[of_append,List.append_assoc]at this ⊢;rw[←List.append_assoc (of k R1),this,List.append_assoc]
 · obtain⟨_,_,pL⟩:=List.pairwise_append.1 hL
   obtain⟨_,_,pR⟩:=List.pairwise_append.1 hR;rcases List.mem_append.1 hx with a|a<;>rcases List.mem_append.1 hy with b|b
   · exact pL x a y b
   · exact h1 x a y b
   · exact o.asymm (h2 x a y b)
   · exact pR x a y b
end Pm
namespace Pm
open Go.Sort
theorem zOr{α:Type}[Inhabited α](P S:List α)(x y:α):swp (P++x::y::S).toArray (P.length+1) P.length=(P++y::x::S).toArray:=by
 have e1:(P++x::y::S).toArray[P.length]! = x:=by simp
 have e2:(P++x::y::S).toArray[P.length+1]! = y:=by simp
 unfold swp;rw[e1,e2];apply Array.ext';simp only[List.setIfInBounds_toArray];rw[List.set_append_right _ _ (by omega),show P.length+1-P.length=1 by omega,List.set_append_right _ _ (Nat.le_refl _),Nat.sub_self];rfl
section
variable {κ:Type} {less:κ→κ→Bool}
def plt(less:κ→κ→Bool)(x y:κ×Int):Bool:=less x.1 y.1
theorem plt_swo(o:STO less):SWO (plt less):=⟨fun _=>o.irr _,fun _ _ _ h1 h2=>o.tr _ _ _ h1 h2,fun _ _ _ h1 h2=>o.ntr h2 h1⟩
end
variable {κ:Type} [DecidableEq κ] [Inhabited κ] {less:κ→κ→Bool}
theorem insInner_of(o:STO less)(a:Nat):∀(j:Nat) (d:Array (κ×Int)),j<d.size→(insInner (plt less) a j d).size=d.size∧∀k,of k (insInner (plt less) a j d).toList=of k d.toList
 |0,d,_=>⟨rfl,fun _=>rfl⟩
 |j+1,d,hj=>by
  unfold insInner
  split
  · next h=>
    obtain⟨l⟩:=d;(have hj':j+1<l.length:=by simpa using hj);obtain⟨P,x,T,e,hl⟩:=zPm l j (by omega);(have hT:T≠[]:=fun h=>by rw[e,h]at hj';simp at hj';omega);cases T with
    |nil=>exact absurd rfl hT
    |cons y S=>
     subst e;subst hl;(have g1:(P++x::y::S).toArray[P.length+1]! = y:=by simp);(have g2:(P++x::y::S).toArray[P.length]! = x:=by simp);have hlt:less y.1 x.1=true:=by
      simp only[Bool.and_eq_true,decide_eq_true_eq]at h;have:=h.2;rw[g1,g2]at this;exact this
     rw[zOr];obtain⟨i1,i2⟩:=insInner_of o a P.length (P++y::x::S).toArray (by simp);refine⟨by rw[i1];simp,fun k=>?_⟩;rw[i2];have:=of_comm o (x:=[y]) (y:=[x]) (fun u hu v hv=>by rw[List.mem_singleton.1 hu,List.mem_singleton.1 hv];exact hlt) k;show of k (P++([y,x]++S))=of k (P++([x,y]++S));rw[of_append,of_append k [y,x],of_append,of_append k [x,y]];rw[show[y,x]=[y]++[x]from rfl,show[x,y]=[x]++[y]from rfl,this]
  · exact⟨rfl,fun _=>rfl⟩
theorem insOuter_of(o:STO less)(a b:Nat):∀(n i:Nat) (d:Array (κ×Int)),b-i=n→b≤d.size→∀k,of k (insOuter (plt less) a b i d).toList=of k d.toList
 |0,i,d,h,_,k=>by rw[insOuter,if_neg (by omega)]
 |n+1,i,d,h,hb,k=>by
  obtain⟨i1,i2⟩:=insInner_of o a i d (by omega);rw[insOuter,if_pos (by omega),insOuter_of o a b n (i+1) _ (by omega) (by rw[i1];exact hb),i2]
theorem ins_list(o:STO less)(A X B:List (κ×Int)):∃X',insertionSort (plt less) (A++(X++B)).toArray A.length (A.length+X.length)=(A++(X'++B)).toArray∧Stably less X X':=by
 obtain⟨⟨h1,h2,_⟩,h3⟩:=insertionSort_holds (lt:=plt less) (plt_swo o) (A++(X++B)).toArray A.length (A.length+X.length) (by omega) (by simp);have hof:=insOuter_of o A.length (A.length+X.length) _ (A.length+1) (A++(X++B)).toArray rfl (by simp);change ∀k,of k (insertionSort (plt less) (A++(X++B)).toArray A.length (A.length+X.length)).toList=_ at hof;generalize insertionSort (plt less) (A++(X++B)).toArray A.length (A.length+X.length)=d at h1 h2 h3 hof ⊢;obtain⟨l⟩:=d;have hl:l.length=A.length+(X.length+B.length):=by simpa using h1
 obtain⟨A',r,rfl,hA⟩:=zG8 l A.length (by omega);have hr:r.length=X.length+B.length:=by simp at hl;omega
 obtain⟨X',B',rfl,hX⟩:=zG8 r X.length (by omega);have hB:B'.length=B.length:=by simp at hr;omega
 have eA:A'=A:=by
  refine List.ext_getElem hA fun i p q=>?_
  have:=h2 i (.inl q);simpa[List.getElem?_append_left p,List.getElem?_append_left q,p,q]using this
 have eB:B'=B:=by
  refine List.ext_getElem hB fun i p q=>?_
  have:=h2 (A.length+X.length+i) (.inr (by omega));rw[eA]at this;simpa[List.getElem?_append_right,hX,Nat.add_assoc,p,q]using this
 subst eA;subst eB;refine⟨X',rfl,?_,fun k=>?_⟩
 · refine List.pairwise_iff_getElem.2 fun i j hi hj hij=>?_
   have:=h3 (A'.length+i) (A'.length+j) (by omega) (by omega) (by omega);simpa[plt,List.getElem?_append_right,List.getElem?_append_left hi,List.getElem?_append_left hj,hi,hj]using this
 · have:=hof k
   simp only[of_append,List.append_cancel_left_eq,List.append_cancel_right_eq]at this;exact this
end Pm
