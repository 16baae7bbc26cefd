import Derived.Test.YtobjpljdgieklaaGreatDoorJ38
import Derived.Test.YtobjpljdgieklaaGreatDoorJ36
import Derived.Test.YtobjpljdgieklaaGreatDoorJ34
import Derived.Shelf.Abstract
import Derived.Maps.OwnIn
import Derived.Test.YtobjpljdgieklaaGreatDoorFBuild2
import Derived.Test.YtobjpljdgieklaaGreatDoorJ7
import Derived.Handy
import Derived.Test.YtobjpljdgieklaaGreatDoorJ42
import Derived.Test.YtobjpljdgieklaaGreatDoorJ33
import Derived.Test.YtobjpljdgieklaaGreatDoorJ20
import Derived.Test.YtobjpljdgieklaaGreatDoorJ35
import Derived.Test.YtobjpljdgieklaaGreatDoorJ4
import Derived.Test.YtobjpljdgieklaaGreatDoorJ39
import Derived.Test.YtobjpljdgieklaaGreatDoorJ16
import Derived.Test.YtobjpljdgieklaaGreatDoorCards
import Derived.Test.YtobjpljdgieklaaGreatDoorTie
import Derived.Test.YtobjpljdgieklaaGreatDoorJ3
import Derived.WalkKit
import Derived.ProofKit
import Derived.OpenShut
import Derived.Deep.DeepHandedRow
import Derived.Lib.LaidTab
import Derived.Test.YtobjpljdgieklaaGreatDoorJ12
import Derived.Deep.Strs
import Derived.Lib.SmallJoins
set_option maxRecDepth 100000
namespace Go.Proofs.YtobjpljdgieklaaGreatDoor
section
open Go.RowKit Nums Fm Pm
namespace Di
section
variable {κ:Type} [DecidableEq κ] {less:κ→κ→Bool}
theorem zKw(o:STO less)(p:κ×Int):∀l:List (κ×Int),SUp less l→(putP less p false l).length+(if (Pm.find l p.1).isSome then 1 else 0)=l.length+1
 |[],_=>rfl
 |x::r,h=>by
  obtain⟨h1,h2⟩:=List.pairwise_cons.1 h;have ih:=zKw o p r h2;cases e:less x.1 p.1 with
  |true=>
   have hne:=o.ne e;(have he:putP less p false (x::r)=x::putP less p false r:=by rw[putP];simp[e,hne]);rw[he,find_cons,if_neg hne,Option.or_none,List.length_cons,List.length_cons];omega
  |false=>
   by_cases hx:x.1=p.1
   · have hd:=zD6 o p r h2 fun y hy=>by rw[←hx];exact h1 y hy
     (have he:putP less p false (x::r)=p::r:=by rw[putP,if_neg (show ¬x.1≠p.1 from fun h=>h hx),e];simp[hd]);(have hf:Pm.find (x::r) p.1=some x.2:=by rw[←hx];exact SUp.find_of_mem o h (List.mem_cons_self ..));rw[he,hf];simp
   · have hpx:less p.1 x.1=true:=by
      cases e2:less p.1 x.1 with
      |true=>rfl
      |false=>exact absurd (o.tot _ _ e e2) hx
     (have hd:=zD6 o p r h2 fun y hy=>o.tr _ _ _ hpx (h1 y hy));(have he:putP less p false (x::r)=p::x::r:=by rw[putP];simp[e,hx,hd]);have hf:Pm.find (x::r) p.1=none:=zAy fun z hz=>by
      rcases List.mem_cons.1 hz with rfl|hm
      · exact(o.ne hpx).symm
      · exact(o.ne (o.tr _ _ _ hpx (h1 z hm))).symm
     rw[he,hf];simp
def out(k:κ)(l:List (κ×Int)):List (κ×Int):=l.filter fun x=>decide (x.1≠k)
theorem out_up{l:List (κ×Int)}(h:SUp less l)(k:κ):SUp less (out k l):=List.Pairwise.filter _ h
theorem zK0(k k':κ):∀l:List (κ×Int),Pm.find (out k l) k'=if k=k' then none else Pm.find l k'
 |[]=>by rw[show out k ([]:List (κ×Int))=[]from rfl,zEw];split<;>rfl
 |x::r=>by
  have ih:=zK0 k k' r;by_cases hx:x.1=k
  · have e:out k (x::r)=out k r:=by simp[out,hx]
    rw[e,ih,find_cons];by_cases hk:k=k'
    · simp[hk]
    · have:¬x.1=k':=by rw[hx];exact hk
      simp[hk,this]
  · have e:out k (x::r)=x::out k r:=by simp[out,hx]
    rw[e,find_cons,ih,find_cons];by_cases hk:k=k'
    · have:¬x.1=k':=by rw[←hk];exact hx
      simp[hk,this]
    · simp[hk]
theorem zU6(o:STO less)(k:κ):∀l:List (κ×Int),SUp less l→(out k l).length+(if (Pm.find l k).isSome then 1 else 0)=l.length
 |[],_=>rfl
 |x::r,h=>by
  obtain⟨h1,h2⟩:=List.pairwise_cons.1 h;have ih:=zU6 o k r h2;by_cases hx:x.1=k
  · have e:out k (x::r)=out k r:=by simp[out,hx]
    (have hn:Pm.find r k=none:=zAy fun z hz=>by rw[←hx];exact(o.ne (h1 z hz)).symm);(have hf:Pm.find (x::r) k=some x.2:=by rw[←hx];exact SUp.find_of_mem o h (List.mem_cons_self ..));rw[hn]at ih;rw[e,hf,List.length_cons];simpa using ih
  · have e:out k (x::r)=x::out k r:=by simp[out,hx]
    rw[e,find_cons,if_neg hx,Option.or_none,List.length_cons,List.length_cons];omega
def Nz(l:List (κ×Int)):Prop:=∀x∈l,x.2≠0
theorem Nz.find{l:List (κ×Int)}(h:Nz l){k:κ}{v:Int}(hf:Pm.find l k=some v):v≠0:=h (k,v) (find_mem hf)
theorem zK6(a b:List (κ×Int)):Nz (zAc less a b):=fun x hx=>by
 have:=(List.mem_filter.1 hx).2;simpa using this
theorem zMs(o:STO less){m:List (κ×Int)}(h:SUp less m)(hz:Nz m)(p:κ×Int):zAc less m [p]=if p.2=0 then out p.1 m else put less m p:=by
 by_cases h0:p.2=0
 · rw[if_pos h0]
   (refine SUp.ext o (zBq o _ _) (out_up h _) fun k=>?_);rw[zA2 o,zFz,zK0];by_cases hk:p.1=k
   · simp[hk,h0,Option.filter]
   · rw[if_neg hk,if_neg hk,Option.none_or]
     cases hf:Pm.find m k with
     |none=>rfl
     |some v=>have:=hz.find hf;simp[Option.filter,this]
 · rw[if_neg h0]
   obtain⟨i1,_,i3⟩:=zH1 o p m h;(refine SUp.ext o (zBq o _ _) i1 fun k=>?_);rw[zA2 o,zFz,put,i3];by_cases hk:p.1=k
   · simp[hk,h0,Option.filter]
   · rw[if_neg hk,if_neg hk,Option.none_or]
     cases hf:Pm.find m k with
     |none=>rfl
     |some v=>have:=hz.find hf;simp[Option.filter,this]
theorem zK5(o:STO less){m:List (κ×Int)}(h:SUp less m)(hz:Nz m)(p:κ×Int):(zAc less m [p]).length+(if (Pm.find m p.1).isSome then 1 else 0)=m.length+(if p.2=0 then 0 else 1):=by
 rw[zMs o h hz];by_cases h0:p.2=0
 · rw[if_pos h0,if_pos h0];exact zU6 o p.1 m h
 · rw[if_neg h0,if_neg h0];exact zKw o p m h
theorem zSo(o:STO less)(a b:List (κ×Int)):zAc less a (norm less b)=zAc less a b:=
 SUp.ext o (zBq o _ _) (zBq o _ _) fun k=>by rw[zA2 o,zA2 o,zCl o]
theorem zJq(o:STO less){a:List (κ×Int)}(h:SUp less a)(hz:Nz a):zAc less a []=a:=
 SUp.ext o (zBq o _ _) h fun k=>by
  rw[zA2 o,zEw,Option.none_or];cases hf:Pm.find a k with
  |none=>rfl
  |some v=>have:=hz.find hf;simp[Option.filter,this]
theorem put_same(o:STO less){m:List (κ×Int)}(h:SUp less m){p:κ×Int}(hf:Pm.find m p.1=some p.2):put less m p=m:=by
 obtain⟨i1,_,i3⟩:=zH1 o p m h;refine SUp.ext o i1 h fun k=>?_
 rw[put,i3];by_cases hk:p.1=k
 · rw[if_pos hk,←hk,hf]
 · rw[if_neg hk]
theorem zI6(o:STO less){l:List (κ×Int)}(h:SUp less l){j:Nat}{p:κ×Int}(hj:l[j]?=some p):Pm.find (l.take j) p.1=none:=by
 refine zAy fun z hz=>?_
 obtain⟨i,hi,rfl⟩:=List.getElem_of_mem hz;rw[List.length_take]at hi;obtain⟨hjl,rfl⟩:=List.getElem?_eq_some_iff.1 hj;rw[List.getElem_take];exact o.ne (List.pairwise_iff_getElem.1 h i j (by omega) hjl (by omega))
theorem len_step(o:STO less){base over:List (κ×Int)}(hu:SUp less over){j:Nat}{p:κ×Int}(hj:over[j]?=some p)(hz:Nz base):
 (zAc less base (over.take (j+1))).length+(if (Pm.find base p.1).isSome then 1 else 0)=(zAc less base (over.take j)).length+(if p.2=0 then 0 else 1):=by
 obtain⟨hjl,e⟩:=List.getElem?_eq_some_iff.1 hj;have h1:over.take (j+1)=over.take j++[p]:=by rw[List.take_succ_eq_append_getElem hjl,e]
 rw[h1,←zH7 o];have h2:=zK5 o (zBq o base (over.take j)) (zK6 base (over.take j)) p;have h3:Pm.find (zAc less base (over.take j)) p.1=Pm.find base p.1:=by
  rw[zA2 o,zI6 o hu hj,Option.none_or];cases hf:Pm.find base p.1 with
  |none=>rfl
  |some v=>have:=hz.find hf;simp[Option.filter,this]
 rw[h3]at h2;exact h2
end
theorem zRe:∀(l:List Pr) (p:Option Pr),(∀x∈l,zAp x.1.data.toList=true∧1≤x.2∧x.2≤1048576)→SUp zAa l→(∀q,p=some q→∀x∈l,zAa q.1 x.1=true)→zBa p l=0
 |[],_,_,_,_=>rfl
 |x::r,p,h1,h2,h3=>by
  obtain⟨g1,g2,g3⟩:=h1 x (List.mem_cons_self ..);obtain⟨k1,k2⟩:=List.pairwise_cons.1 h2;have hp:zFl p x=true:=by
   cases p with
   |none=>rfl
   |some q=>exact h3 q rfl x (List.mem_cons_self ..)
  have e:oneF p x=0:=by
   unfold oneF;rw[if_neg (by rw[g1];decide),if_neg (by omega),if_neg (by rw[hp];decide)]
  rw[zBa,if_pos e];exact zRe r (some x) (fun y hy=>h1 y (List.mem_cons_of_mem _ hy)) k2 (fun q hq y hy=>by cases hq;exact k1 y hy)
theorem built_of{l:List Pr}(h1:∀x∈l,zAp x.1.data.toList=true∧1≤x.2∧x.2≤1048576)(h2:SUp zAa l)(h3:l.length≤4096):zAf l=0:=by
 unfold zAf;rw[if_neg (by omega)];exact zRe l none h1 h2 (fun q hq=>by cases hq)
theorem zEk{l:List Pr}(h:zAf l=0):SUp zAa l:=(zAn h).2.1
theorem zHm{l:List Pr}(h:zAf l=0):Nz l:=fun x hx=>by have:=((zAn h).1 x hx).2.1;omega
structure Dok(base over:List Pr):Prop where
 ok:zAf base=0
 up:SUp zAa over
 wd:∀x∈over,zAp x.1.data.toList=true∧0≤x.2∧x.2≤1048576
 few:over.length≤33
 len:(zAc zAa base over).length≤4096
theorem Dok.all{base over:List Pr}(h:Dok base over):zAf (zAc zAa base over)=0:=by
 refine built_of (fun x hx=>?_) (zBq lessB_sto _ _) h.len;have hn:=zK6 base over x hx;have hf:=SUp.find_of_mem lessB_sto (zBq lessB_sto base over) hx;rw[zA2 lessB_sto]at hf;cases ho:Pm.find over x.1 with
 |some v=>
  rw[ho,Option.some_or]at hf;have e:v=x.2:=by
   by_cases h0:v=0
   · simp[h0,Option.filter]at hf
   · simp[h0,Option.filter]at hf;exact hf
  obtain⟨g1,g2,g3⟩:=h.wd _ (find_mem ho);simp only at g1 g2 g3;exact⟨g1,by omega,by omega⟩
 |none=>
  rw[ho,Option.none_or]at hf;cases hb:Pm.find base x.1 with
  |none=>rw[hb]at hf;cases hf
  |some v=>
   rw[hb]at hf;have e:v=x.2:=by
    by_cases h0:v=0
    · simp[h0,Option.filter]at hf
    · simp[h0,Option.filter]at hf;exact hf
   obtain⟨g1,g2,g3⟩:=(zAn h.ok).1 _ (find_mem hb);simp only at g1 g2 g3;exact⟨g1,by omega,by omega⟩
theorem Dok.start{l:List Pr}(h:zAf l=0):Dok l []∧zAc zAa l []=l:=by
 have e:=zJq lessB_sto (zEk h) (zHm h);exact⟨⟨h,List.Pairwise.nil,fun x hx=>(by cases hx),(by simp),(by rw[e];exact(zAn h).2.2)⟩,e⟩
theorem Dok.find{base over:List Pr}(h:Dok base over)(s:ByteArray):Pm.find (zAc zAa base over) s=match Pm.find over s with|some v=>if v=0 then none else some v|none=>Pm.find base s:=by
 rw[zA2 lessB_sto];cases ho:Pm.find over s with
 |some v=>by_cases h0:v=0<;>simp[h0,Option.filter]
 |none=>
  rw[Option.none_or];cases hb:Pm.find base s with
  |none=>rfl
  |some v=>have:=(zHm h.ok).find hb;simp[Option.filter,this]
theorem Dok.change(base over:List Pr)(p:Pr):zAc zAa base (norm zAa (over++[p]))=if p.2=0 then out p.1 (zAc zAa base over)else put zAa (zAc zAa base over) p:=by
 rw[zSo lessB_sto,←zH7 lessB_sto,zMs lessB_sto (zBq lessB_sto _ _) (zK6 _ _)]
theorem Dok.next{base over:List Pr}(h:Dok base over){p:Pr}(hw:zAp p.1.data.toList=true)(h0:0≤p.2)(h1:p.2≤1048576)(hl:(zAc zAa base (norm zAa (over++[p]))).length≤4096)(hf:(norm zAa (over++[p])).length≤33):Dok base (norm zAa (over++[p])):=by
 refine⟨h.ok,zD9 lessB_sto _,fun x hx=>?_,hf,hl⟩;have hfd:=SUp.find_of_mem lessB_sto (zD9 lessB_sto (over++[p])) hx;rw[zCl lessB_sto]at hfd;have hm:=find_mem hfd;rcases List.mem_append.1 hm with hm|hm
 · exact h.wd _ hm
 · have e:=List.mem_singleton.1 hm
   have e1:x.1=p.1:=congrArg Prod.fst e;have e2:x.2=p.2:=congrArg Prod.snd e;rw[e1,e2];exact⟨hw,h0,h1⟩
theorem Dok.sm{base over:List Pr}(h:Dok base over):Sm over∧Sm base:=⟨fun x hx=>by
 obtain⟨_,_,_,_,hs96,_⟩:=zA3 (x:=x) (h.wd x hx).1;omega,fun x hx=>by
 obtain⟨_,_,_,_,hs96,_⟩:=zA3 (x:=x) ((zAn h.ok).1 x hx).1;omega⟩
end Di
end
section
open Go.RowKit Go.Shelf Nums Fm Pk
attribute [local go_sem] Oper.semAt_some
namespace Di
structure CoI(w:World)(lb:Nat)(A:Nat→Prop)(pre:List Pr)(W:World):Prop where
 bel:Below w.heap.size w W
 lo:w.heap.size≤lb
 loA:∀k,A k→w.heap.size≤k
 ex:∃v,W.heap[lb]?=some (.cells #[v] 22)∧POwn w.heap.size W v pre∧v.ownBlock≠some lb∧∀k,k=lb∨v.ownBlock=some k→A k
theorem zCk{B:Nat}{w w':World}{v:Value}{l:List Pr}(h:POwn B w v l)(hs:∀g,v.ownBlock=some g→w'.heap[g]?=w.heap[g]?):POwn B w' v l:=by
 obtain⟨hl,hn|⟨g,cap,cur,rfl,h1,hg,h2⟩⟩:=h
 · exact⟨hl,.inl hn⟩
 · exact⟨hl,.inr ⟨g,cap,cur,rfl,h1,(hs g rfl).trans hg,h2⟩⟩
theorem zAw{B:Nat}{w:World}{v:Value}{l:List Pr}(h:POwn B w v l){g:Nat}(hg:v.ownBlock=some g):B≤g∧g<w.heap.size:=by
 obtain⟨hl,⟨rfl,_⟩|⟨g',cap,cur,rfl,h1,hh,h2⟩⟩:=h
 · cases hg
 · cases hg;exact⟨h1,(Array.getElem?_eq_some_iff.1 hh).1⟩
theorem CoI.minds{w:World}{lb B:Nat}(hl:lb<B):zGa B (CoI w lb):=by
 rintro A pre W W' ⟨h1,h2,h3,v,h4,h5,h6,h7⟩ hu;have hA:∀k,k<W.heap.size→A k→¬(¬A k∧B≤k):=fun k _ ha hn=>hn.1 ha
 exact⟨h1.trans (hu.below h1.size fun k hk=>by omega),h2,h3,v,(hu.block lb (Array.getElem?_eq_some_iff.1 h4).1 (fun hn=>by omega)).trans h4,zCk h5 fun g hg=>hu.block g (zAw h5 hg).2 (hA g (zAw h5 hg).2 (h7 g (.inr hg))),h6,h7⟩
theorem zTl{F:Fence}{n:Nat}{W:World}{ops:Array Oper}{rest:List Oper}{o:Oper}{a:Act}{Q:Exit→Act→World→Prop}(hgd:o.guard=none)(s y:Operand)(x:Pr)(T:TypeId)
 (ho:o.op = .call { callee := .builtin .append,args:=#[s,y],argTypes:=#[22,22] }) (B nb c:Nat) (v:Value) (l:List Pr) (hs:a.eval s=v) (hown:POwn B W v l) (hy:a.eval y = .slice (some ⟨nb,0,none⟩) 1 c) (hnb:nb=W.heap.size) (h63:l.length<2199023255552) (hB:B≤W.heap.size)
 (h:∀v' w',POwn B w' v' (l++[x])→(W.alloc (.cells #[.string x.1,.int .i64 x.2] T)).grownBy w' v.ownBlock→(v'.ownBlock=v.ownBlock∨v'.ownBlock=some (W.heap.size+1))→wpListIn F n Tryz.prog ops Q rest (a.put o.dst v') w'):wpListIn F n Tryz.prog ops Q (o::rest) a (W.alloc (.cells #[.string x.1,.int .i64 x.2] T)):=by
 subst hnb;obtain⟨i0,hi,hz0,hz1,hz2⟩:=info_parts zQ6;have hbA:Below W.heap.size W (W.alloc (.cells #[.string x.1,.int .i64 x.2] T)):=(Below.refl _ W).alloc (Nat.le_refl _) _;have ho2:POwn B (W.alloc (.cells #[.string x.1,.int .i64 x.2] T)) v l:=hown.below hbA;refine wpListIn_append_own_at _ hgd s y 22 ho B 64 i0 _ 2 24 Tryz.underlying22 hi hz0 hz1 hz2 rfl (by decide) v l.length (zBo l) hs ho2 ⟨W.heap.size,0,none⟩ 1 c [.string x.1,.int .i64 x.2] hy rfl ?_ ?_ (by simp only[maxLen];omega) (by omega) (by simp;omega) ?_
 · intro j u hj
   match j,hj with
   |0,hj=>simp at hj;subst hj;simp[Addr.add]
   |1,hj=>simp at hj;subst hj;simp[Addr.add]
   |k+2,hj=>simp at hj
 · intro u hu
   simp at hu;rcases hu with rfl|rfl<;>rfl
 · intro v' w' h1 h2 _ h4
   refine h v' w' ?_ h2 (h4.imp id (fun e=>by rw[e];simp));unfold POwn;rw[List.length_append,List.length_singleton,zPg];exact h1
set_option maxHeartbeats 4000000 in
theorem zLs(w:World)(c0 c1:Value)(S:(Nat→Prop)→World→Prop)(L:List Pr)(hL:L.length≤1048576)(hseq:SeqIs S 138 #[c0,c1] L)(hS:∀W A,Below w.heap.size w W→(∀k,A k→w.heap.size≤k)→S A W):
 Calls Tryz.prog 98 #[.slice none 0 0,.func (.func 138) #[] #[c0,c1]] w fun e w'=>∃v,e = .returned v∧POwn w.heap.size w' v L∧Below w.heap.size w w':=by
 obtain⟨lb,hlb⟩:∃lb,lb=w.heap.size:=⟨_,rfl⟩;obtain⟨W0,hW0⟩:∃W0,W0=w.alloc (.cells #[.slice none 0 0] 22):=⟨_,rfl⟩;have hb0:Below w.heap.size w W0:=by rw[hW0];exact(Below.refl _ w).alloc (Nat.le_refl _) _
 have hs0:W0.heap.size=w.heap.size+1:=by rw[hW0];simp
 have hl0:W0.heap[lb]?=some (.cells #[.slice none 0 0] 22):=by rw[hW0,hlb];exact zAb _ _
 have hI0:CoI w lb (fun j=>j=lb) [] W0:=⟨hb0,by omega,fun k e=>by omega,_,hl0,POwn.nil _ _,fun e=>(by cases e),fun k e=>(by rcases e with e|e;exact e;cases e)⟩;refine(callsIn_wide (n:=0)).1 (callsIn_of_wp_marks Tryz.func98 rfl trivial ?_ rfl);refine wpIn_wide.2 ?_;simp only[Tryz.ntmps98,List.size_toArray,List.length_cons,List.length_nil,Nat.reduceAdd,Nat.reduceSub,Array.replicate_succ,Array.replicate_zero,List.push_toArray,List.append_toArray,List.nil_append,List.cons_append];go_upto_region 1 with fail
 rw[←hlb,←hW0];clear hW0;go_wp2;refine zTu (gf:=138) (lb:=#[c0,c1]) rfl (enters_of Tryz.func138 (by kernel_rfl) rfl) hseq rfl (CoI w lb) (fun _ _ _ _=>False) (fun j=>j=lb) ?_ ?_ (CoI.minds (by omega)) (fun _ _ _ _ _ h _=>h) hI0 ?_ ?_ ?_
 · intro j hj;omega
 · intro W hb
   exact hS W _ (hb0.trans (hb.mono hb0.size)) (fun j hj=>by omega)
 · rintro n lp A pre x W hpx ⟨h1,h2,h3,v,h4,h5,h6,h7⟩ hl hnl hlt
   obtain⟨x1,x2⟩:=x;simp only[zSk];(have hplen:pre.length<1048576:=by have:=hpx.length_le;rw[List.length_append,List.length_singleton]at this;omega);obtain⟨vd,vc,hvv⟩:=h5.shape;subst hvv;have HS0:Hid (W0.heap.size=w.heap.size+1∧lb=w.heap.size):=⟨hs0,hlb⟩;clear hpx hL hseq hS hs0 hlb
   gi_wp2
   refine⟨Upd.of_below ((Below.refl _ W).alloc (Nat.le_refl _) _),fun W2 hu2=>?_⟩;obtain⟨hz1,hz2⟩:=HS0.out;have hua:Upd (fun j=>j=W0.heap.size+1) W W2:=(Upd.of_below (F:=fun j=>j=W0.heap.size+1) ((Below.refl _ W).alloc (Nat.le_refl _) _)).trans hu2 (fun _ _ g=>g);(have hl2:Lies A W2:=fun j hj=>Nat.lt_of_lt_of_le (hl j hj) hua.size);have hI2:CoI w lb A pre W2:=CoI.minds (B:=W0.heap.size) (by omega) A pre W W2 ⟨h1,h2,h3,_,h4,h5,h6,h7⟩ (hua.mono fun k e=>⟨by rw[e];exact hnl,by omega⟩);have hlbW:=(Array.getElem?_eq_some_iff.1 h4).1;have hl4:W2.heap[lb]?=some (.cells #[.slice vd pre.length vc] 22):=(hua.block lb hlbW (fun e=>by omega)).trans h4;(have ho2:POwn w.heap.size W2 (.slice vd pre.length vc) pre:=zCk h5 fun g hg=>hua.block g (zAw h5 hg).2 (fun e=>hnl (e▸h7 g (.inr hg))));have hp2:W2.heap[W.heap.size]?=some (.cells #[.string x1,.int .i64 x2] 64):=(hu2.block W.heap.size (by simp) (fun e=>by omega)).trans (zAb _ _);obtain⟨pb,hpb⟩:∃pb,pb=W.heap.size:=⟨_,rfl⟩;rw[←hpb]at hp2 ⊢;(have p0:W2.cell? ⟨pb,0,none⟩=some (.string x1):=by simp[World.cell?,hp2]);(have p1:W2.cell? ⟨pb,1,none⟩=some (.int .i64 x2):=by simp[World.cell?,hp2]);(have l0:W2.cell? ⟨lb,0,none⟩=some (.slice vd pre.length vc):=by simp[World.cell?,hl4]);have HO2:Hid (POwn w.heap.size W2 (.slice vd pre.length vc) pre):=ho2;have HEND:Hid (∀(v7:Value) (w7:World) (T:TypeId),POwn w.heap.size w7 v7 (pre++[(x1,x2)])→(W2.alloc (.cells #[.string x1,.int .i64 x2] T)).grownBy w7 (Value.slice vd pre.length vc).ownBlock→(v7.ownBlock=(Value.slice vd pre.length vc).ownBlock∨v7.ownBlock=some (W2.heap.size+1))→w7.cell? ⟨lb,0,none⟩=some (.slice vd pre.length vc)∧w7.frozen? ⟨lb,0,none⟩=false∧∃A',Ext A A' W2∧Lies A' (w7.setCell ⟨lb,0,none⟩ v7)∧Upd A W2 (w7.setCell ⟨lb,0,none⟩ v7)∧CoI w lb A' (pre++[(x1,x2)]) (w7.setCell ⟨lb,0,none⟩ v7)):=fun v7 w7 T ho7 hg7 hn7=>by
    have hbo:Below W2.heap.size W2 (W2.alloc (.cells #[.string x1,.int .i64 x2] T)):=(Below.refl _ W2).alloc (Nat.le_refl _) _;(have hsa:(W2.alloc (.cells #[.string x1,.int .i64 x2] T)).heap.size=W2.heap.size+1:=by simp);have hs2:w.heap.size≤W2.heap.size:=Nat.le_trans h1.size hua.size;have hu7:Upd A W2 w7:=(Upd.of_below hbo).trans (G:=A) ⟨hg7.os,hg7.tape,hg7.output,hg7.size,fun k hk hn=>hg7.block k hk (fun e=>hn (h7 k (.inr e.symm)))⟩ (fun _ _ g=>g);have hlb2:lb<W2.heap.size:=Nat.lt_of_lt_of_le hlbW hua.size;have hb7:w7.heap[lb]?=some (.cells #[.slice vd pre.length vc] 22):=(hg7.block lb (by omega) (fun e=>h6 e.symm)).trans ((hbo.block lb hlb2).trans hl4);have hus:Upd (fun j=>j=lb) w7 (w7.setCell ⟨lb,0,none⟩ v7):=zBi w7 lb 0 v7;have hlb7:v7.ownBlock≠some lb:=fun e=>by
     rcases hn7 with e2|e2
     · exact h6 (e2▸e)
     · rw[e2]at e;cases e;omega
    have hu:Upd A W2 (w7.setCell ⟨lb,0,none⟩ v7):=hu7.trans hus (fun k _ e=>h7 k (.inl e));have hA2:∀k,v7.ownBlock=some k→A k∨W2.heap.size≤k:=fun k e=>by
     rcases hn7 with e2|e2
     · exact .inl (h7 k (.inr (e2▸e)))
     · rw[e2]at e;cases e;exact .inr (by omega)
    refine⟨by simp[World.cell?,hb7],by simp[World.frozen?,hb7],fun k=>A k∨v7.ownBlock=some k,⟨fun k hk => .inl hk,fun k hk=>hk.elim .inl (hA2 k)⟩,fun k hk=>?_,hu,hI2.bel.trans (hu.below hI2.bel.size h3),h2,fun k hk=>?_,v7,by rw[zAx hb7];rfl,zCk ho7 fun g hg=>hus.block g (zAw ho7 hg).2 (fun e=>hlb7 (e▸hg)),hlb7,fun k hk=>?_⟩
    · rcases hk with e|e
      · exact Nat.lt_of_lt_of_le (hl2 k e) hu.size
      · exact Nat.lt_of_lt_of_le (zAw ho7 e).2 hus.size
    · rcases hk with e|e
      · exact h3 k e
      · exact(zAw ho7 e).1
    · rcases hk with e|e
      · exact .inl (h7 k (.inl e))
      · exact .inr e
   have HB2:Hid (w.heap.size≤W2.heap.size):=Nat.le_trans h1.size hua.size;have HUA:Hid (Upd (fun j=>j=W0.heap.size+1) W W2):=hua;clear h1 h2 h3 h4 h5 h6 h7 hl hnl hlt hu2 hua hl2 hI2 hl4 ho2 hp2 hpb hz1 hz2 hlbW
   gi_wp2_with (gi_at_builtin;refine zTl rfl _ _ (x1,x2) _ rfl w.heap.size _ _ _ pre rfl HO2.out rfl rfl (by omega) HB2.out ?_;intro v7 w7 ho7 hg7 hn7;obtain⟨m0,mf,HE7⟩:=HEND.out v7 w7 _ ho7 hg7 hn7;obtain⟨ad7,n7,cap7,hv7⟩:∃a n c,v7=Value.slice a n c:=(by obtain⟨a,c,e⟩:=ho7.shape;exact⟨_,_,_,e⟩);subst hv7;have HEE:Hid _:=HE7;clear HE7 ho7 hg7 hn7)
   exact HEE.out
 · rintro A' W hl ⟨h1,h2,h3,v,h4,h5,h6,h7⟩ hD
   obtain⟨vd,vc,hvv⟩:=h5.shape;subst hvv;(have l0:W.cell? ⟨lb,0,none⟩=some (.slice vd L.length vc):=by simp[World.cell?,h4]);have HO:Hid (POwn w.heap.size W (.slice vd L.length vc) L):=h5;have HB:Hid (Below w.heap.size w W):=h1;have HD:Hid (W.heap[W0.heap.size]?=some (.deferred (some []))):=hD;have HZ:Hid (w.heap.size≤W0.heap.size∧∀k,(Value.slice vd L.length vc).ownBlock=some k→k≠W0.heap.size):=⟨by omega,fun k hk e=>by
    obtain⟨_,⟨e2,_⟩|⟨g,cap,cur,e2,_,hh,_⟩⟩:=h5
    · rw[e2]at hk;cases hk
    · rw[e2]at hk;cases hk
      have e':g=W0.heap.size:=e;rw[e',hD]at hh;cases hh⟩
   generalize W0.heap.size=db at *;clear h1 h2 h3 h4 h5 h6 h7 hD hl hs0 hL hseq hS hI0 hl0 hlb;go_wp2;have hu:=Upd.put (W:=W) db (.deferred none);have hfin:POwn w.heap.size (W.putObj db (.deferred none)) (.slice vd L.length vc) L∧Below w.heap.size w (W.putObj db (.deferred none)):=⟨zCk HO.out fun g hg=>hu.block g (zAw HO.out hg).2 (HZ.out.2 g hg),HB.out.trans (hu.below HB.out.size fun k e=>by rw[e];exact HZ.out.1)⟩;exact⟨by simp,.inl ⟨_,_,rfl,run_takeDeferred HD.out,_,results_tmp rfl _ _ _,.slice vd L.length vc,rfl,hfin.1,hfin.2⟩⟩
 · rintro c A' q W hq hl' h hD
   exact h.elim
theorem zPd(w:World)(c0 c1:Value)(S:(Nat→Prop)→World→Prop)(L:List Pr)(hL:L.length≤1048576)(hseq:SeqIs S 138 #[c0,c1] L)(hS:∀W A,Below w.heap.size w W→(∀k,A k→w.heap.size≤k)→S A W):
 Calls Tryz.prog 60 #[.func (.func 138) #[] #[c0,c1]] w fun e w'=>∃v,e = .returned v∧POwn w.heap.size w' v L∧Below w.heap.size w w':=by
 have HA:=zLs w c0 c1 S L hL hseq hS;have HA:Hid (Calls Tryz.prog 98 #[.slice none 0 0,.func (.func 138) #[] #[c0,c1]] w fun e w'=>∃v,e = .returned v∧POwn w.heap.size w' v L∧Below w.heap.size w w'):=HA;clear hseq hS;go_enter Tryz.func60,Tryz.ntmps60;go_wp2_with (go_at_call 98;refine HA.out.mono ?_;rintro e w1 ⟨v1,rfl,ho1,hb1⟩;have HO1:Hid (POwn w.heap.size w1 v1 L∧Below w.heap.size w w1):=⟨ho1,hb1⟩;clear ho1 hb1);go_ret;exact⟨_,rfl,HO1.out.1,HO1.out.2⟩
def zLx(fv:Value)(w1:World)(L:List Pr):Prop:=∀W,Below w1.heap.size w1 W→Calls Tryz.prog 60 #[fv] W fun e w'=>∃v,e = .returned v∧POwn W.heap.size w' v L∧Below W.heap.size W w'
set_option maxHeartbeats 1000000 in
theorem WAll_any(w:World)(wb:Nat)(l:List Pr)(h:WkOn w wb l):
 Calls Tryz.prog 61 #[.pointer (some ⟨wb,0,none⟩)] w fun e w'=>∃c0 c1,e = .returned (.func (.func 138) #[] #[.pointer (some ⟨c0,0,none⟩),.pointer (some ⟨c1,0,none⟩)])∧Below w.heap.size w w'∧zLx (.func (.func 138) #[] #[.pointer (some ⟨c0,0,none⟩),.pointer (some ⟨c1,0,none⟩)]) w' l:=by
 have HFR:Hid (Calls Tryz.prog 99 #[.pointer (some ⟨wb,0,none⟩),.int .i64 0] w fun e w'=>∃c0 c1,e = .returned (.func (.func 138) #[] #[.pointer (some ⟨c0,0,none⟩),.pointer (some ⟨c1,0,none⟩)])∧Below w.heap.size w w'∧zLx (.func (.func 138) #[] #[.pointer (some ⟨c0,0,none⟩),.pointer (some ⟨c1,0,none⟩)]) w' l):=by
  refine(from_any wb 0 w).mono ?_;rintro e w' ⟨rfl,t1,t2,hw'⟩;have hb:Below w.heap.size w w':=by rw[hw'];exact((Below.refl _ w).alloc (Nat.le_refl _) _).alloc (by simp) _
  have hcw:w'.cell? ⟨w.heap.size,0,none⟩=some (.pointer (some ⟨wb,0,none⟩)):=by rw[hw'];simp
  have hci:w'.cell? ⟨w.heap.size+1,0,none⟩=some (.int .i64 ((0:Nat):Int)):=by rw[hw'];simp
  have hsz:w'.heap.size=w.heap.size+2:=by rw[hw'];simp
  refine⟨_,_,rfl,hb,fun W hW=>?_⟩;have hbW:Below w.heap.size w W:=hb.trans (hW.mono hb.size);have hl:=(zAn h.ok).2.2;have:=zPd W _ _ _ _ (by rw[List.drop_zero];omega) (from_seq w wb l h w.heap.size (w.heap.size+1) 0 (by omega)) (fun W' A hW' hA=>⟨hbW.trans (hW'.mono hbW.size),fun j hj=>Nat.le_trans hbW.size (hA j hj),(hW'.cell (p:=⟨w.heap.size,0,none⟩) (by show w.heap.size<_;have:=hW.size;omega)).trans ((hW.cell (p:=⟨w.heap.size,0,none⟩) (by show w.heap.size<_;omega)).trans hcw),(hW'.cell (p:=⟨w.heap.size+1,0,none⟩) (by show w.heap.size+1<_;have:=hW.size;omega)).trans ((hW.cell (p:=⟨w.heap.size+1,0,none⟩) (by show w.heap.size+1<_;omega)).trans hci),fun ha=>by have h1:=hA _ ha;have h2:=hW.size;omega⟩);rw[List.drop_zero]at this;exact this
 clear h;go_enter Tryz.func61,Tryz.ntmps61;go_wp2_with (go_at_call 99;refine HFR.out.mono ?_;rintro e w1 ⟨c0,c1,rfl,hb1,hts⟩;have HTS:Hid _:=hts;clear hts);go_ret;exact⟨c0,c1,rfl,hb1,HTS.out⟩
end Di
end
section
open Go.RowKit Go.Shelf Go.Lib Nums Fm Pk Pm
namespace Di
def WkIn(w:World)(lo hi wb:Nat)(l:List Pr):Prop:=hi≤w.heap.size∧∀W,hi≤W.heap.size→(∀j,lo≤j→j<hi→W.heap[j]?=w.heap[j]?)→Tabs W→WkOn W wb l
theorem WkIn.keep{w w':World}{lo hi wb:Nat}{l:List Pr}(h:WkIn w lo hi wb l)(hs:w.heap.size≤w'.heap.size)(hk:∀j,lo≤j→j<hi→w'.heap[j]?=w.heap[j]?):WkIn w' lo hi wb l:=
 ⟨Nat.le_trans h.1 hs,fun W h1 h2 h3=>h.2 W h1 (fun j a b=>(h2 j a b).trans (hk j a b)) h3⟩
theorem WkIn.on{w:World}{lo hi wb:Nat}{l:List Pr}(h:WkIn w lo hi wb l)(ht:Tabs w):WkOn w wb l:=h.2 w h.1 (fun _ _ _=>rfl) ht
theorem WkIn.of_lo{w:World}{B wb:Nat}{l:List Pr}(h:zNx B w wb l):WkIn w B w.heap.size wb l:=⟨Nat.le_refl _,fun W h1 h2 h3=>h W h1 h2 h3⟩
def TabB(B:Nat)(w:World):Prop:=∀W,Below B w W→Tabs W
theorem TabB.now{B:Nat}{w:World}(h:TabB B w):Tabs w:=h w (Below.refl _ _)
theorem TabB.of{w:World}(h:Tabs w):TabB w.heap.size w:=fun _ hb=>h.below hb
theorem TabB.go{B:Nat}{w w':World}(h:TabB B w)(hb:Below B w w'):TabB B w':=fun W hW=>h W (hb.trans hW)
structure DictAt(B:Nat)(w:World)(db lo hi wb:Nat)(v:Value)(base over:List Pr):Prop where
 low:B≤db
 ok:Dok base over
 tabs:TabB B w
 blk:w.heap[db]?=some (.cells #[.pointer (some ⟨wb,0,none⟩),v] 81)
 wk:WkIn w lo hi wb base
 own:POwn B w v over
 nd:v.ownBlock≠some db
 nw:¬(lo≤db∧db<hi)
 nv:∀k,v.ownBlock=some k→¬(lo≤k∧k<hi)
 nz:over=[]→v = .slice none 0 0
def fpD(db:Nat)(v:Value)(k:Nat):Prop:=k=db∨v.ownBlock=some k
section
variable {B:Nat} {w w':World} {db lo hi wb:Nat} {v:Value} {base over:List Pr}
theorem DictAt.lt(h:DictAt B w db lo hi wb v base over):db<w.heap.size:=(Array.getElem?_eq_some_iff.1 h.blk).1
theorem DictAt.size(h:DictAt B w db lo hi wb v base over):B≤w.heap.size:=Nat.le_of_lt (Nat.lt_of_le_of_lt h.low h.lt)
theorem DictAt.keep{F:Nat→Prop}(h:DictAt B w db lo hi wb v base over)(hu:Upd F w w')(hF:∀k,F k→B≤k)(h1:¬F db)(h2:∀k,v.ownBlock=some k→¬F k)(h3:∀k,lo≤k→k<hi→¬F k):DictAt B w' db lo hi wb v base over:=
 ⟨h.low,h.ok,h.tabs.go (hu.below h.size hF),(hu.block db h.lt h1).trans h.blk,h.wk.keep hu.size (fun j a b=>hu.block j (Nat.lt_of_lt_of_le b h.wk.1) (h3 j a b)),zCk h.own fun g hg=>hu.block g (zAw h.own hg).2 (h2 g hg),h.nd,h.nw,h.nv,h.nz⟩
theorem DictAt.below(h:DictAt B w db lo hi wb v base over)(hb:Below w.heap.size w w'):DictAt B w' db lo hi wb v base over:=
 h.keep (F:=fun _=>False) (Upd.of_below hb) (fun _=>False.elim) id (fun _ _=>id) (fun _ _ _=>id)
theorem DictAt.cells(h:DictAt B w db lo hi wb v base over):w.cell? ⟨db,0,none⟩=some (.pointer (some ⟨wb,0,none⟩))∧w.cell? ⟨db,1,none⟩=some v∧w.frozen? ⟨db,0,none⟩=false∧w.frozen? ⟨db,1,none⟩=false:=
 ⟨by simp[World.cell?,h.blk],by simp[World.cell?,h.blk],by simp[World.frozen?,h.blk],by simp[World.frozen?,h.blk]⟩
theorem DictAt.on(h:DictAt B w db lo hi wb v base over):WkOn w wb base:=h.wk.on h.tabs.now
theorem DictAt.row(h:DictAt B w db lo hi wb v base over):PRow w v over:=h.own.row
theorem DictAt.fp(h:DictAt B w db lo hi wb v base over):∀k,fpD db v k→B≤k∧k<w.heap.size:=fun k hk=>by
 rcases hk with rfl|hk
 · exact⟨h.low,h.lt⟩
 · exact zAw h.own hk
end
structure MutSays(B:Nat)(w w':World)(db lo hi:Nat)(v:Value)(L:List Pr):Prop where
 ex:∃lo' hi' wb' v' base' over',DictAt B w' db lo' hi' wb' v' base' over'∧over'.length≤32∧zAc zAa base' over'=L∧(v'=v∨∀k,v'.ownBlock=some k→w.heap.size≤k)∧((lo'=lo∧hi'=hi)∨w.heap.size≤lo')
 upd:Upd (fpD db v) w w'
theorem MutSays.same{B:Nat}{w w':World}{db lo hi wb:Nat}{v:Value}{base over:List Pr}(h:DictAt B w db lo hi wb v base over)(hf:over.length≤32)(hb:Below w.heap.size w w'):MutSays B w w' db lo hi v (zAc zAa base over):=
 ⟨⟨lo,hi,wb,v,base,over,h.below hb,hf,rfl,.inl rfl,.inl ⟨rfl,rfl⟩⟩,Upd.of_below hb⟩
end Di
end
section
open Go.RowKit Go.Shelf Go.Lib Nums Fm Pk Pm
namespace Di
theorem zMd{B:Nat}{w:World}{vs:Value}{b:List St}(h:StRow B w vs b):∃ad n cap,vs = .slice ad n cap:=by
 obtain⟨ad,n,cap,e,_⟩:=StRow.form h;exact⟨ad,n,cap,e⟩
structure LoadSays(B:Nat)(w w':World)(l:List Pr)(db:Nat):Prop where
 ex:∃lo hi wb,DictAt B w' db lo hi wb (.slice none 0 0) l []∧w.heap.size≤lo
 lo:w.heap.size≤db
 bel:Below w.heap.size w w'
theorem load_end{B:Nat}{w w2 w3:World}{wb:Nat}{l:List Pr}(hB:B≤w.heap.size)(ht:TabB B w)(hC:zAf l=0)(h1:Below w.heap.size w w2)(h3:Below w2.heap.size w2 w3)(hlo:zNx w2.heap.size w3 wb l)(o:Obj)(ho:o = .cells #[.pointer (some ⟨wb,0,none⟩),.slice none 0 0] 81):
 LoadSays B w (w3.alloc o) l w3.heap.size:=by
 subst ho;have hb3:Below w.heap.size w w3:=h1.trans (h3.mono h1.size);have hb4:Below w3.heap.size w3 (w3.alloc (.cells #[.pointer (some ⟨wb,0,none⟩),.slice none 0 0] 81)):=(Below.refl _ w3).alloc (Nat.le_refl _) _;have hb:Below w.heap.size w (w3.alloc (.cells #[.pointer (some ⟨wb,0,none⟩),.slice none 0 0] 81)):=hb3.trans (hb4.mono hb3.size);have h23:=h3.size;refine⟨⟨w2.heap.size,w3.heap.size,wb,⟨Nat.le_trans hB hb3.size,(Dok.start hC).1,ht.go (hb.mono hB),zAb _ _,(WkIn.of_lo hlo).keep hb4.size (fun j _ hj=>hb4.block j hj),POwn.nil _ _,fun e=>(by cases e),by omega,fun k e=>(by cases e),fun _=>rfl⟩,h1.size⟩,hb3.size,hb⟩
set_option maxHeartbeats 1000000 in
theorem zHq(B:Nat)(w:World)(hB:B≤w.heap.size)(ht:TabB B w)(u:Value)(l:List Pr)(h:PRow w u l)(hs:Sm l)(hC:zAf l=0):
 Calls Tryz.prog 17 #[u] w fun e w'=>∃db,e = .returned (.tuple #[.pointer (some ⟨db,0,none⟩),.int .i64 0])∧LoadSays B w w' l db:=by
 obtain⟨ad,cap,rfl⟩:=h.form;have hl:=(zAn hC).2.2
 have HBD:Hid (Calls Tryz.prog 40 #[.slice ad l.length cap] w fun e w'=>∃base vd vn vc b,e = .returned (.tuple #[.agg #[.int .i64 base,.slice vd vn vc],.int .i64 0])∧BuildSays w w' l base (.slice vd vn vc) b):=(zN3 w (.slice ad l.length cap) l h (by omega) hs ht.now).mono (by
  rintro e w' ⟨base,vs,b,rfl,hb⟩;obtain⟨vd,vn,vc,rfl⟩:=zMd hb.row;exact⟨base,vd,vn,vc,b,by rw[hC],hb⟩)
 have HT:Hid (TabB B w∧B≤w.heap.size):=⟨ht,hB⟩;have HC:Hid (zAf l=0):=hC;generalize l.length=n at *;clear h hs hC ht hB hl;go_enter Tryz.func17,Tryz.ntmps17;go_upto_region 4 with(go_at_call 40;refine HBD.out.mono ?_;rintro e w1 ⟨base,vd,vn,vc,b,rfl,hbs⟩;have HBS:Hid (BuildSays w w1 l base (.slice vd vn vc) b):=hbs;clear hbs)
 obtain⟨W2,hW2⟩:∃W2,W2=w1.alloc (.cells #[.int .i64 base,.slice vd vn vc] 39):=⟨_,rfl⟩;have hb2:Below w1.heap.size w1 W2:=by rw[hW2];exact(Below.refl _ w1).alloc (Nat.le_refl _) _
 have hn2:W2.heap[w1.heap.size]?=some (.cells #[.int .i64 base,.slice vd vn vc] 39):=by rw[hW2];exact zAb _ _
 rw[←hW2];obtain⟨mb,hmb⟩:∃mb,w1.heap.size=mb:=⟨_,rfl⟩;rw[hmb]at hn2 ⊢;have c0:W2.cell? ⟨mb,0,none⟩=some (.int .i64 base):=by simp[World.cell?,hn2]
 have c1:W2.cell? ⟨mb,1,none⟩=some (.slice vd vn vc):=by simp[World.cell?,hn2]
 have HW2:Hid (Below w.heap.size w W2):=HBS.out.bel.trans (hb2.mono HBS.out.bel.size);have HNW:Hid (Calls Tryz.prog 41 #[.agg #[.int .i64 base,.slice vd vn vc]] W2 fun e w'=>∃wb,e = .returned (.tuple #[.pointer (some ⟨wb,0,none⟩),.bool true])∧W2.heap.size≤wb∧zNx W2.heap.size w' wb l∧Below W2.heap.size W2 w'):=NewW_lo w.heap.size W2 l base _ b HC.out (HBS.out.row.below hb2) HBS.out.mach (HT.out.1.now.below HW2.out);clear hb2 hn2 hW2 hmb;go_wp2_with (go_at_call 41;refine HNW.out.mono ?_;rintro e w3 ⟨wb,rfl,_,hlo,hb3⟩;have H3:Hid (zNx W2.heap.size w3 wb l∧Below W2.heap.size W2 w3):=⟨hlo,hb3⟩;clear hlo hb3);go_ret2;exact⟨_,rfl,load_end HT.out.2 HT.out.1 HC.out HW2.out H3.out.2 H3.out.1 _ rfl⟩
set_option maxHeartbeats 1000000 in
theorem Load_no(w:World)(ht:Tabs w)(u:Value)(l:List Pr)(h:PRow w u l)(hs:Sm l)(hl:l.length≤9223372036854775807)(hC:zAf l≠0):
 Calls Tryz.prog 17 #[u] w fun e w'=>e = .returned (.tuple #[.pointer none,.int .i64 (zAf l)])∧Below w.heap.size w w':=by
 obtain⟨ad,cap,rfl⟩:=h.form;obtain⟨C,hCC⟩:∃C,zAf l=C:=⟨_,rfl⟩;rw[hCC]at hC ⊢
 have HBD:Hid (Calls Tryz.prog 40 #[.slice ad l.length cap] w fun e w'=>∃base vd vn vc,e = .returned (.tuple #[.agg #[.int .i64 base,.slice vd vn vc],.int .i64 C])∧Below w.heap.size w w'):=(zN3 w (.slice ad l.length cap) l h hl hs ht).mono (by
  rintro e w' ⟨base,vs,b,rfl,hb⟩;obtain⟨vd,vn,vc,rfl⟩:=zMd hb.row;exact⟨base,vd,vn,vc,by rw[hCC],hb.bel⟩)
 have hC2:(C==0)=false:=by simpa using hC
 generalize l.length=n at *;clear h hs hCC ht hl;go_enter Tryz.func17,Tryz.ntmps17;go_wp2_with (go_at_call 40;refine HBD.out.mono ?_;rintro e w1 ⟨base,vd,vn,vc,rfl,hb1⟩;have HB1:Hid (Below w.heap.size w w1):=hb1;clear hb1);go_ret2;exact⟨rfl,HB1.out.alloc HB1.out.size _⟩
set_option maxHeartbeats 1000000 in
theorem New_dict(B:Nat)(w:World)(hB:B≤w.heap.size)(ht:TabB B w):
 Calls Tryz.prog 37 #[] w fun e w'=>∃db,e = .returned (.pointer (some ⟨db,0,none⟩))∧LoadSays B w w' [] db:=by
 have HLD:Hid (Calls Tryz.prog 17 #[.slice none 0 0] w fun e w'=>∃db,e = .returned (.tuple #[.pointer (some ⟨db,0,none⟩),.int .i64 0])∧LoadSays B w w' [] db):=zHq B w hB ht _ [] (PRow.nil w) (fun x hx=>by cases hx) (by rfl);clear hB ht;go_enter Tryz.func37,Tryz.ntmps37;go_wp2_with (go_at_call 17;refine HLD.out.mono ?_;rintro e w1 ⟨db,rfl,hls⟩;have HLS:Hid (LoadSays B w w1 [] db):=hls;clear hls);go_ret;exact⟨db,rfl,HLS.out⟩
structure Sdb(db wb:Nat)(v:Value)(W:World):Prop where
 c0:W.cell? ⟨db,0,none⟩=some (.pointer (some ⟨wb,0,none⟩))
 c1:W.cell? ⟨db,1,none⟩=some v
theorem Sdb.facts{db wb:Nat}{v:Value}{W:World}(h:Sdb db wb v W):W.cell? ⟨db,0,none⟩=some (.pointer (some ⟨wb,0,none⟩))∧W.cell? ⟨db,1,none⟩=some v:=⟨h.1,h.2⟩
theorem DictAt.sdb{B:Nat}{w:World}{db lo hi wb:Nat}{v:Value}{base over:List Pr}(h:DictAt B w db lo hi wb v base over):Sdb db wb v w:=⟨h.cells.1,h.cells.2.1⟩
theorem Sdb.below{db wb:Nat}{v:Value}{w w':World}(h:Sdb db wb v w)(hb:Below w.heap.size w w'):Sdb db wb v w':=
 ⟨(hb.cell (p:=⟨db,0,none⟩) (World.block_lt_of_cell? _ _ h.c0)).trans h.c0,(hb.cell (p:=⟨db,1,none⟩) (World.block_lt_of_cell? _ _ h.c1)).trans h.c1⟩
set_option maxHeartbeats 1000000 in
theorem zN0(B:Nat)(w:World)(db lo hi wb:Nat)(v:Value)(base over:List Pr)(h:DictAt B w db lo hi wb v base over):
 Calls Tryz.prog 39 #[.pointer (some ⟨db,0,none⟩)] w fun e w'=>∃u,e = .returned u∧POwn w.heap.size w' u (zAc zAa base over)∧Below w.heap.size w w':=by
 obtain⟨vd,vc,rfl⟩:=h.own.shape;have hl:=(zAn h.ok.ok).2.2;have hlo:=h.ok.few;have HS:Hid (∀W,Below w.heap.size w W→Sdb db wb (.slice vd over.length vc) W):=fun W hW=>h.sdb.below hW
 have HAA:Hid (∀W,Below w.heap.size w W→Calls Tryz.prog 61 #[.pointer (some ⟨wb,0,none⟩)] W fun e w'=>∃c0 c1,e = .returned (.func (.func 138) #[] #[.pointer (some ⟨c0,0,none⟩),.pointer (some ⟨c1,0,none⟩)])∧Below W.heap.size W w'∧zLx (.func (.func 138) #[] #[.pointer (some ⟨c0,0,none⟩),.pointer (some ⟨c1,0,none⟩)]) w' base):=fun W hW=>WAll_any W wb base (h.on.below hW)
 have HMG:Hid (∀W u,Below w.heap.size w W→PRow W u base→Calls Tryz.prog 59 #[u,.slice vd over.length vc] W fun e w'=>∃v',e = .returned v'∧POwn W.heap.size w' v' (zAc zAa base over)∧Below W.heap.size W w'):=fun W u hW hu=>zYk W u _ base over hu (h.row.below hW) (by omega) (by omega)
 generalize over.length=no at *;clear h hl hlo;go_enter Tryz.func39,Tryz.ntmps39;go_upto_region 1 with fail
 have hbd:Below w.heap.size w w.drew:=(Below.refl _ w).drew;have hS0:=HS.out w.drew hbd;refine zAd (S:=Sdb db wb (.slice vd no vc)) 12 rfl zAo hS0 (fun _=>?_);refine tq4 Sdb.facts 0 3 1 4 2 5 3 6 ?_;simp only[sZa,sZb,sZc];refine tq4 Sdb.facts 6 9 7 10 8 11 9 12 ?_;simp only[sZa,sZb,sZc];refine zAe (i:=4) (w0:=w.drew) 7 61 #[.pointer (some ⟨wb,0,none⟩)] (by kernel_rfl) rfl rfl (by rfl) (by kernel_rfl) ?_;refine(HAA.out _ hbd).mono ?_;rintro e w1 ⟨c0,c1,rfl,hb1,hts⟩;have HB1:Hid (Below w.heap.size w w1):=hbd.trans (hb1.mono hbd.size);have hS1:=HS.out w1 HB1.out;refine⟨_,rfl,hS1,fun _=>?_⟩;simp only[sZa,sZb,sZc];refine zAe (i:=5) (w0:=w1) 8 60 #[.func (.func 138) #[] #[.pointer (some ⟨c0,0,none⟩),.pointer (some ⟨c1,0,none⟩)]] (by kernel_rfl) rfl rfl (by rfl) (by kernel_rfl) ?_;refine(hts w1 (Below.refl _ _)).mono ?_;rintro e w2 ⟨u2,rfl,ho2,hb2⟩;obtain⟨ud,uc,rfl⟩:=ho2.shape;have HB2:Hid (Below w.heap.size w w2):=HB1.out.trans (hb2.mono HB1.out.size);have HO2:Hid (PRow w2 (.slice ud base.length uc) base):=ho2.row;have hS2:=HS.out w2 HB2.out;clear hts hb1 hb2 ho2;refine⟨_,rfl,hS2,fun _=>?_⟩;simp only[sZa,sZb,sZc];refine zAe (i:=10) (w0:=w2) 13 59 #[.slice ud base.length uc,.slice vd no vc] (by kernel_rfl) rfl rfl (by rfl) (by kernel_rfl) ?_;refine(HMG.out _ _ HB2.out HO2.out).mono ?_;rintro e w3 ⟨u3,rfl,ho3,hb3⟩;obtain⟨xd,xc,hx⟩:=ho3.shape;have HB3:Hid (Below w.heap.size w w3):=HB2.out.trans (hb3.mono HB2.out.size);have HO3:Hid (POwn w.heap.size w3 u3 (zAc zAa base over)):=ho3.mono HB2.out.size;have hS3:=HS.out w3 HB3.out;subst hx;clear hb3 ho3;refine⟨_,rfl,hS3,fun _=>?_⟩;simp only[sZa,sZb,sZc];refine tq Sdb.facts 11 2 ?_;simp only[sZa,sZb,sZc];refine wpAnyH_done (by kernel_rfl) ?_ _;clear hS0 hS1 hS2 hS3;go_wp2;go_ret;exact⟨_,rfl,HO3.out,HB3.out⟩
set_option maxHeartbeats 1000000 in
theorem zFf(w:World)(db:Nat)(vd:Option Addr)(n vc:Nat)(c1:w.cell? ⟨db,1,none⟩=some (.slice vd n vc)):
 Calls Tryz.prog 19 #[.pointer (some ⟨db,0,none⟩)] w fun e w'=>e = .returned (.int .i64 (n:Int))∧w'=w:=by
 go_enter Tryz.func19,Tryz.ntmps19;go_wp2;go_ret;exact⟨rfl,rfl⟩
theorem Dok.words_sm{base over:List Pr}(h:Dok base over):Sm (zAc zAa base over):=fun x hx=>by
 obtain⟨_,_,_,_,hs96,_⟩:=zA3 (x:=x) ((zAn h.all).1 x hx).1;omega
structure CompSays(B:Nat)(w w':World)(db:Nat)(L:List Pr):Prop where
 ex:∃lo hi wb,DictAt B w' db lo hi wb (.slice none 0 0) L []∧w.heap.size≤lo
 upd:Upd (fun k=>k=db) w w'
theorem zPc{B:Nat}{w w2:World}{db lo hi wb:Nat}{v:Value}{base over:List Pr}(h:DictAt B w db lo hi wb v base over)(hb:Below w.heap.size w w2){lo2 hi2 wb2:Nat}{db2:Nat}(h2:DictAt B w2 db2 lo2 hi2 wb2 (.slice none 0 0) (zAc zAa base over) [])(hlo:w.heap.size≤lo2):
 CompSays B w ((w2.setCell ⟨db,0,none⟩ (.pointer (some ⟨wb2,0,none⟩))).setCell ⟨db,1,none⟩ (.slice none 0 0)) db (zAc zAa base over):=by
 have hdb:=h.lt;have hu1:Upd (fun k=>k=db) w2 (w2.setCell ⟨db,0,none⟩ (.pointer (some ⟨wb2,0,none⟩))):=zBi w2 db 0 _;have hu2:Upd (fun k=>k=db) (w2.setCell ⟨db,0,none⟩ (.pointer (some ⟨wb2,0,none⟩))) ((w2.setCell ⟨db,0,none⟩ (.pointer (some ⟨wb2,0,none⟩))).setCell ⟨db,1,none⟩ (.slice none 0 0)):=zBi _ db 1 _;have hu:=hu1.trans hu2 (fun _ _ g=>g);have hblk:w2.heap[db]?=some (.cells #[.pointer (some ⟨wb,0,none⟩),v] 81):=(hb.block db hdb).trans h.blk;have hk:=h2.wk.keep hu.size (fun j a b=>hu.block j (Nat.lt_of_lt_of_le b h2.wk.1) (fun e=>by omega));refine⟨⟨lo2,hi2,wb2,⟨h.low,h2.ok,h2.tabs.go (hu.below h2.size (fun k e=>by rw[e];exact h.low)),?_,hk,POwn.nil _ _,fun e=>(by cases e),by omega,fun k e=>(by cases e),fun _=>rfl⟩,hlo⟩,(Upd.of_below hb).trans hu (fun _ _ g=>g)⟩;have e1:(w2.setCell ⟨db,0,none⟩ (.pointer (some ⟨wb2,0,none⟩))).heap[db]?=some (.cells #[.pointer (some ⟨wb2,0,none⟩),v] 81):=by rw[zAx hblk];rfl
 rw[zAx e1];rfl
set_option maxHeartbeats 1000000 in
theorem zFe(B:Nat)(w:World)(db lo hi wb:Nat)(v:Value)(base over:List Pr)(h:DictAt B w db lo hi wb v base over):
 Calls Tryz.prog 25 #[.pointer (some ⟨db,0,none⟩)] w fun e w'=>e = .returned (.tuple #[])∧CompSays B w w' db (zAc zAa base over):=by
 have HP:Hid (Calls Tryz.prog 39 #[.pointer (some ⟨db,0,none⟩)] w fun e w'=>∃u,e = .returned u∧POwn w.heap.size w' u (zAc zAa base over)∧Below w.heap.size w w'):=zN0 B w db lo hi wb v base over h;have HL:Hid (∀W u,Below w.heap.size w W→PRow W u (zAc zAa base over)→Calls Tryz.prog 17 #[u] W fun e w'=>∃db,e = .returned (.tuple #[.pointer (some ⟨db,0,none⟩),.int .i64 0])∧LoadSays B W w' (zAc zAa base over) db):=fun W u hW hu=>zHq B W (Nat.le_trans h.size hW.size) (h.tabs.go (hW.mono h.size)) u _ hu h.ok.words_sm h.ok.all
 have HH:Hid (DictAt B w db lo hi wb v base over):=h;have hlt:=h.lt;clear h;go_enter Tryz.func25,Tryz.ntmps25
 go_upto_region 1 with(first
  |(go_at_call 39;refine HP.out.mono ?_;rintro e w1 ⟨u1,rfl,ho1,hb1⟩;have HO1:Hid (PRow w1 u1 (zAc zAa base over)):=ho1.row;have HB1:Hid (Below w.heap.size w w1):=hb1;obtain⟨ud,uc,hu1⟩:=ho1.shape;subst hu1;clear ho1 hb1)
  |(go_at_call 17;refine(HL.out _ _ HB1.out HO1.out).mono ?_;rintro e w2 ⟨db2,rfl,hls⟩;have HLS:Hid (LoadSays B w1 w2 (zAc zAa base over) db2):=hls;clear hls))
 have HB2:Hid (Below w.heap.size w w2):=HB1.out.trans (HLS.out.bel.mono HB1.out.size);obtain⟨lo2,hi2,wb2,hd2,hlo2⟩:=HLS.out.ex;have HD2:Hid (DictAt B w2 db2 lo2 hi2 wb2 (.slice none 0 0) (zAc zAa base over) []):=hd2;have HLO:Hid (w.heap.size≤lo2∧w.heap.size≤db2):=⟨Nat.le_trans HB1.out.size hlo2,Nat.le_trans HB1.out.size HLS.out.lo⟩;obtain⟨x0,x1,_,_⟩:=hd2.cells;obtain⟨_,_,f0,f1⟩:=(HH.out.below HB2.out).cells;clear hd2 hlo2;go_wp2;go_returns;exact⟨rfl,zPc HH.out HB2.out HD2.out HLO.out.1⟩
end Di
end
section
open Go.RowKit Go.Shelf Go.Lib Nums Fm Pk Pm
namespace Di
theorem zMo(over:List Pr)(p:Pr):norm zAa (over++[p])≠[]:=fun e=>by
 have:=zCl lessB_sto (over++[p]) p.1;rw[e,zEw,find_snoc,if_pos rfl]at this;cases this
theorem zTa{B:Nat}{w W1 w2 w3:World}{db lo hi wb:Nat}{v v3:Value}{base over:List Pr}{p:Pr}(h:DictAt B w db lo hi wb v base over)(hb1:Below w.heap.size w W1)(hg:W1.grownBy w2 v.ownBlock)(hb3:Below w2.heap.size w2 w3)(ho3:POwn w2.heap.size w3 v3 (norm zAa (over++[p])))(hk:Dok base (norm zAa (over++[p]))):
 DictAt B (w3.setCell ⟨db,1,none⟩ v3) db lo hi wb v3 base (norm zAa (over++[p]))∧Upd (fpD db v) w (w3.setCell ⟨db,1,none⟩ v3)∧(∀k,v3.ownBlock=some k→w.heap.size≤k)∧w3.cell? ⟨db,1,none⟩=some v∧w3.frozen? ⟨db,1,none⟩=false:=by
 have hdb:=h.lt;have hu2:Upd (fpD db v) w w2:=(Upd.of_below hb1).trans (G:=fun k=>v.ownBlock=some k) ⟨hg.os,hg.tape,hg.output,hg.size,fun k hk hn=>hg.block k hk (fun e=>hn e.symm)⟩ (fun k _ g => .inr g);have hu3:Upd (fpD db v) w w3:=hu2.trans (G:=fun _=>False) (Upd.of_below hb3) (fun _ _ g=>g.elim);have hb2:w2.heap[db]?=some (.cells #[.pointer (some ⟨wb,0,none⟩),v] 81):=(hg.block db (Nat.lt_of_lt_of_le hdb hb1.size) (fun e=>h.nd e.symm)).trans ((hb1.block db hdb).trans h.blk);have hblk:w3.heap[db]?=some (.cells #[.pointer (some ⟨wb,0,none⟩),v] 81):=(hb3.block db (Nat.lt_of_lt_of_le hdb hu2.size)).trans hb2;have hus:Upd (fun k=>k=db) w3 (w3.setCell ⟨db,1,none⟩ v3):=zBi w3 db 1 _;have hu:Upd (fpD db v) w (w3.setCell ⟨db,1,none⟩ v3):=hu3.trans hus (fun k _ g => .inl g);have hnew:∀k,v3.ownBlock=some k→w.heap.size≤k:=fun k e=>Nat.le_trans hu2.size (zAw ho3 e).1
 have hv3:v3.ownBlock≠some db:=fun e=>by have:=hnew db e;omega
 refine⟨⟨h.low,hk,h.tabs.go (hu.below h.size fun k g=>(h.fp k g).1),by rw[zAx hblk];rfl,h.wk.keep hu.size (fun j a b=>hu.block j (Nat.lt_of_lt_of_le b h.wk.1) (fun g=>?_)),?_,hv3,h.nw,fun k e=>?_,fun e=>absurd e (zMo over p)⟩,hu,hnew,by simp[World.cell?,hblk],by simp[World.frozen?,hblk]⟩
 · rcases g with g|g
   · exact h.nw (by rw[←g];exact⟨a,b⟩)
   · exact h.nv j g ⟨a,b⟩
 · have:=zCk ho3 (w':=w3.setCell ⟨db,1,none⟩ v3) fun g hg=>hus.block g (zAw ho3 hg).2 (fun e=>hv3 (e▸hg))
   exact this.mono (Nat.le_trans h.size hu2.size)
 · have h1:=hnew k e
   have h2:=h.wk.1;omega
theorem zIm{B:Nat}{w w4 w5:World}{db lo hi:Nat}{v:Value}{L:List Pr}(hu:Upd (fpD db v) w w4)(hc:CompSays B w4 w5 db L)(hL:zAc zAa L []=L):MutSays B w w5 db lo hi v L:=by
 obtain⟨lo',hi',wb',hd,hlo⟩:=hc.ex;exact⟨⟨lo',hi',wb',.slice none 0 0,L,[],hd,by simp,hL,.inr (fun k e=>by cases e),.inr (Nat.le_trans hu.size hlo)⟩,hu.trans hc.upd (fun k _ g => .inl g)⟩
theorem zK2(over:List Pr)(p:Pr):(norm zAa (over++[p])).length≤over.length+1:=by
 have:=zHa (over++[p]);rw[List.length_append,List.length_singleton]at this;exact this
set_option maxHeartbeats 1000000 in
theorem zJ4(B:Nat)(w:World)(db lo hi wb:Nat)(v:Value)(base over:List Pr)(h:DictAt B w db lo hi wb v base over)(hf:over.length≤32)(p:Pr)(hw:zAp p.1.data.toList=true)(h0:0≤p.2)(h1:p.2≤1048576)(hl:(zAc zAa base (norm zAa (over++[p]))).length≤4096):
 Calls Tryz.prog 57 #[.pointer (some ⟨db,0,none⟩),.string p.1,.int .i64 p.2] w fun e w'=>e = .returned (.tuple #[])∧MutSays B w w' db lo hi v (zAc zAa base (norm zAa (over++[p]))):=by
 have hnl:=zK2 over p;have hk:=h.ok.next hw h0 h1 hl (by omega)
 obtain⟨vd,vc,rfl⟩:=h.own.shape;obtain⟨c0,c1,_,_⟩:=h.cells;obtain⟨W1,hW1⟩:∃W1,W1=w.alloc (.cells #[.string p.1,.int .i64 p.2] 64):=⟨_,rfl⟩;obtain⟨N,hN⟩:∃N,norm zAa (over++[p])=N:=⟨_,rfl⟩;obtain⟨n,hn⟩:∃n,N.length=n:=⟨_,rfl⟩;have HN:Hid (norm zAa (over++[p])=N∧N.length=n∧n≤33):=⟨hN,hn,by rw[←hn,←hN];omega⟩;have HD:Hid (DictAt B w db lo hi wb (.slice vd over.length vc) base over):=h;have HK:Hid (Dok base (norm zAa (over++[p]))):=hk;have HO:Hid (POwn B w (.slice vd over.length vc) over):=h.own;have HB:Hid (B≤w.heap.size∧over.length≤32):=⟨h.size,hf⟩
 have HNO:Hid (∀W u,PRow W u (over++[p])→Calls Tryz.prog 77 #[u] W fun x w'=>∃a c,x = .returned (.slice a n c)∧POwn W.heap.size w' (.slice a n c) (norm zAa (over++[p]))∧Below W.heap.size W w'):=fun W u hu=>(zRs W u _ hu (by rw[List.length_append,List.length_singleton];omega)).mono (by
  rintro x w' ⟨v',rfl,hown,hb⟩;obtain⟨a,c,hsh⟩:=POwn.shape hown;rw[hN,hn]at hsh;subst hsh;exact⟨a,c,rfl,hown,hb⟩)
 have HC:Hid (∀W v3,DictAt B W db lo hi wb v3 base (norm zAa (over++[p]))→Calls Tryz.prog 25 #[.pointer (some ⟨db,0,none⟩)] W fun e w'=>e = .returned (.tuple #[])∧CompSays B W w' db (zAc zAa base (norm zAa (over++[p])))):=fun W v3 hd=>zFe B W db lo hi wb v3 _ _ hd
 generalize over.length=no at *;clear h hf hw h0 h1 hl hnl hk hN hn hW1 W1;obtain⟨s,x⟩:=p;simp only at *;go_enter Tryz.func57,Tryz.ntmps57
 go_upto_region 1 with(first
  |(at_builtin;refine zF7 rfl _ _ rfl B _ _ over [(s,x)] rfl (HO.out.below ((Below.refl _ w).alloc (Nat.le_refl _) _)) rfl (PRow.one (TwoAt.new w (s,x) _)) (by have:=HB.out.2;have:=HD.out.own.shape;obtain⟨_,_,e⟩:=this;simp only[Value.slice.injEq]at e;rw[List.length_singleton];omega) (by have:=HB.out.1;simp;omega) ?_;intro v2 w2 ho2 hb2 hg2;have HG2:Hid ((w.alloc (.cells #[.string s,.int .i64 x] 64)).grownBy w2 (Value.slice vd no vc).ownBlock):=hg2;have HR2:Hid (PRow w2 v2 (over++[(s,x)])):=ho2.row;obtain⟨vd2,n2,vc2,hv2⟩:∃a n c,v2=Value.slice a n c:=(by obtain⟨a,c,e⟩:=ho2.shape;exact⟨_,_,_,e⟩);subst hv2;clear ho2 hb2 hg2)
  |(go_at_call 77;refine(HNO.out _ _ HR2.out).mono ?_;rintro e w3 ⟨a3,c3,rfl,ho3,hb3⟩;obtain⟨k1,k2,k3,k4,k5⟩:=zTa HD.out ((Below.refl _ w).alloc (Nat.le_refl _) _) HG2.out hb3 ho3 HK.out;have HK1:Hid (DictAt B (w3.setCell ⟨db,1,none⟩ (.slice a3 n c3)) db lo hi wb (.slice a3 n c3) base (norm zAa (over++[(s,x)]))):=k1;have HK2:Hid (Upd (fpD db (.slice vd no vc)) w (w3.setCell ⟨db,1,none⟩ (.slice a3 n c3))∧∀k,(Value.slice a3 n c3).ownBlock=some k→w.heap.size≤k):=⟨k2,k3⟩;clear k1 k2 k3 ho3 hb3))
 obtain⟨W4,hW4⟩:∃W4,w3.setCell ⟨db,1,none⟩ (.slice a3 n c3)=W4:=⟨_,rfl⟩;rw[hW4]at HK1 HK2 ⊢;have HCH:Hid (Calls Tryz.prog 19 #[.pointer (some ⟨db,0,none⟩)] W4 fun e w'=>e = .returned (.int .i64 (n:Int))∧w'=W4):=zFf W4 db a3 n c3 HK1.out.cells.2.1;clear hW4 k4 k5 c0 c1;by_cases hn32:32<n
 · have hz:(32:Int)<(n:Int):=by omega
   go_wp2_with (first
    |(go_at_call 19;refine HCH.out.mono ?_;rintro e w5 ⟨rfl,hw5⟩;rw[hw5];clear hw5)
    |(go_at_call 25;refine(HC.out _ _ HK1.out).mono ?_;rintro e w6 ⟨rfl,hcs⟩;have HCS:Hid _:=hcs;clear hcs))
   go_returns;exact⟨rfl,zIm HK2.out.1 HCS.out (Dok.start HK1.out.ok.all).2⟩
 · have hz:¬(32:Int)<(n:Int):=by omega
   go_wp2_with (go_at_call 19;refine HCH.out.mono ?_;rintro e w5 ⟨rfl,hw5⟩;rw[hw5];clear hw5);go_returns;exact⟨rfl,⟨lo,hi,wb,_,base,_,HK1.out,by rw[HN.out.1,HN.out.2.1];omega,rfl,.inr HK2.out.2,.inl ⟨rfl,rfl⟩⟩,HK2.out.1⟩
theorem zOa{base over:List Pr}(h:Dok base over){s:ByteArray}{x:Int}(hf:Pm.find over s=some x):(Pm.find (zAc zAa base over) s).getD 0=x∧(Pm.find (zAc zAa base over) s).isSome=decide (0<x):=by
 rw[h.find,hf];have h0:=(h.wd _ (find_mem hf)).2.1;simp only at h0;by_cases e:x=0
 · subst e;simp
 · simp only[e,if_false]
   refine⟨rfl,?_⟩;symm;exact decide_eq_true (by omega)
set_option maxHeartbeats 1000000 in
theorem zG2(B:Nat)(w:World)(db lo hi wb:Nat)(v:Value)(base over:List Pr)(h:DictAt B w db lo hi wb v base over)(s:ByteArray)(hs:s.size≤9223372036854775807):
 Calls Tryz.prog 20 #[.pointer (some ⟨db,0,none⟩),.string s] w fun e w'=>e = .returned (.tuple #[.int .i64 ((Pm.find (zAc zAa base over) s).getD 0),.bool (Pm.find (zAc zAa base over) s).isSome])∧Below w.heap.size w w':=by
 obtain⟨vd,vc,rfl⟩:=h.own.shape;obtain⟨c0,c1,_,_⟩:=h.cells;have HF:Hid (Calls Tryz.prog 44 #[.slice vd over.length vc,.string s] w fun e w'=>e = .returned (.tuple #[.int .i64 ((Pm.find over s).getD 0),.bool (Pm.find over s).isSome])∧w'=w):=zU4 w _ over s h.row (by have:=h.ok.few;omega);generalize over.length=no at *;cases hf:Pm.find over s with
 |some x=>
  obtain⟨e1,e2⟩:=zOa h.ok hf;rw[hf]at HF;rw[e1,e2];simp only[Option.getD_some,Option.isSome_some]at HF;clear h hf e1 e2;go_enter Tryz.func20,Tryz.ntmps20;go_wp2_with (go_at_call 44;refine HF.out.mono ?_;rintro e w1 ⟨rfl,hw1⟩;rw[hw1];clear hw1);go_ret2;exact⟨rfl,Below.refl _ _⟩
 |none=>
  have e1:Pm.find (zAc zAa base over) s=Pm.find base s:=by rw[h.ok.find,hf]
  rw[hf]at HF;rw[e1];simp only[Option.getD_none,Option.isSome_none]at HF;have HW:Hid (Calls Tryz.prog 45 #[.pointer (some ⟨wb,0,none⟩),.string s] w fun e w'=>e = .returned (.tuple #[.int .i64 ((Pm.find base s).getD 0),.bool (Pm.find base s).isSome])∧Below w.heap.size w w'):=zRu w wb base h.on s hs;generalize (Pm.find base s).getD 0=x at *;generalize (Pm.find base s).isSome=b at *;clear h hf e1 hs;go_enter Tryz.func20,Tryz.ntmps20
  go_wp2_with (first
   |(go_at_call 44;refine HF.out.mono ?_;rintro e w1 ⟨rfl,hw1⟩;rw[hw1];clear hw1)
   |(go_at_call 45;refine HW.out.mono ?_;rintro e w2 ⟨rfl,hb2⟩))
  go_ret2;exact⟨rfl,hb2⟩
end Di
end
section
namespace Mq
open Go.RowKit Go.Shelf Go.Lib Go.Sort Pm
set_option maxRecDepth 1000000
set_option maxHeartbeats 1500000 in
theorem stable_any(blk off n cap:Nat)(w0 w:World)(R:RowP w0 blk off n)(hn50:n<1125899906842624)(l0:List Pr)(S:SWK encP 3 w0 blk off l0.toArray w)(hn:l0.length=n):
 Calls Tryz.prog 123 #[.slice (some ⟨blk,off,none⟩) n cap,.int .i64 n,.func (.func 81) #[] #[]] w fun e w'=>e = .returned (.tuple #[])∧∃l',Stably zAa l0 l'∧SWK encP 3 w0 blk off l'.toArray w':=by
 have S0:Aside (SWK encP 3 w0 blk off l0.toArray w):=S;have HN:Hid (l0.length=n):=hn;clear S hn;go_enter Tryz.func123,Tryz.ntmps123;go_wp2
 go_loopg [7,8] n (fun g s7 s8 wr=>∃(a:Nat) (C:List (List Pr)) (Z:List Pr),s7 = .int .i64 a∧s8 = .int .i64 ((a+20:Nat):Int)∧a≤n∧n-a≤g∧Aside (SWK encP 3 w0 blk off (C.flatten++Z).toArray wr)∧Hid ((∀c∈C,c.length=20∧Up zAa c)∧C.flatten.length=a∧(C.flatten++Z).length=n∧∀k,Mq.of k (C.flatten++Z)=Mq.of k l0))
 case atStart=>exact⟨0,[],l0,rfl,by go_num,Nat.zero_le _,by omega,S0,(show Hid _ from⟨fun c hc=>absurd hc (List.not_mem_nil),rfl,HN.out,fun _=>rfl⟩)⟩
 case round=>
  clear S0;obtain⟨a,C,Z,rfl,rfl,han,hg,S1,H⟩:=hrel;by_cases hle:a+20≤n
  · have hlez:((a+20:Nat):Int)≤(n:Int):=by omega
    obtain⟨Z1,Z2,hZ,hZ1⟩:=zDy Z 20 (by have h:=H.out.2.2.1;rw[List.length_append,H.out.2.1]at h;omega);have HZ:Hid (Z=Z1++Z2∧Z1.length=20):=⟨hZ,hZ1⟩;have hc:=insertion_any blk off n cap w0 wr R C.flatten Z1 Z2 (by have h:=S1.out;rw[hZ]at h;exact h) (by have h:=H.out.2.2.1;rw[hZ]at h;exact h) a (a+20) H.out.2.1.symm (by rw[H.out.2.1,hZ1]);(have eb:((a+20:Nat):Int)+20=((a+20+20:Nat):Int):=by omega);clear hZ hZ1 S1;go_wp2_with (go_at_call 158;refine hc.mono ?_;rintro e w2 ⟨rfl,X,hX,S2⟩);have HX:Hid (Stably zAa Z1 X):=hX;have S3:Aside (SWK encP 3 w0 blk off ((C++[X]).flatten++Z2).toArray w2):=aside (by have h:=S2;simpa using h);clear hX S2;go_roundg (n-(a+20));case measure=>omega
    case rel=>
     refine⟨a+20,C++[X],Z2,by first|rfl|go_num,by first|rfl|go_num|rw[←eb],hle,Nat.le_refl _,S3,?_,?_,?_,?_⟩
     · intro c hcm
       rcases List.mem_append.1 hcm with h|h
       · exact H.out.1 c h
       · rw[List.mem_singleton.1 h]
         exact⟨by rw[HX.out.len,HZ.out.2],HX.out.1⟩
     · have h1:=H.out.2.1
       have h2:=HX.out.len;have h3:=HZ.out.2;simp at h1 ⊢;omega
     · have h1:=H.out.2.2.1
       have h2:=HX.out.len;rw[HZ.out.1]at h1;simp at h1 ⊢;omega
     · intro k
       rw[←H.out.2.2.2 k,HZ.out.1,←of_same_mid HX.out k];simp
  · have hlez:¬((a+20:Nat):Int)≤(n:Int):=by omega
    have hc:=insertion_any blk off n cap w0 wr R C.flatten Z [] (by have h:=S1.out;simpa using h) (by have h:=H.out.2.2.1;simpa using h) a n H.out.2.1.symm (by have h:=H.out.2.2.1;rw[List.length_append]at h;omega);clear S1;go_wp2_with (go_at_call 158;refine hc.mono ?_;rintro e w2 ⟨rfl,X,hX,S2⟩);have S3:Aside (SWK encP 3 w0 blk off (C.flatten++X).toArray w2):=aside (by have h:=S2;simpa using h);have H2:Hid (Blk 20 C X∧(C.flatten++X).length=n∧∀k,Mq.of k (C.flatten++X)=Mq.of k l0):=by
     have h1:=H.out;have h2:=hX.len;have h3:=h1.2.2.1;rw[List.length_append]at h3;refine⟨⟨h1.1,hX.1,by omega⟩,by rw[List.length_append];omega,fun k=>?_⟩;rw[←h1.2.2.2 k,of_append,of_append,hX.2]
    clear hX S2 H hc
    go_loopg [6,7,8,9] n (fun g s6 _ _ _ wr=>∃(s:Nat) (C:List (List Pr)) (Z:List Pr),s6 = .int .i64 s∧0<s∧s≤n+n+20∧n-s≤g∧Aside (SWK encP 3 w0 blk off (C.flatten++Z).toArray wr)∧Hid (Blk s C Z∧(C.flatten++Z).length=n∧∀k,Mq.of k (C.flatten++Z)=Mq.of k l0))
    case atStart=>exact⟨20,C,X,rfl,by omega,by omega,by omega,S3,H2.out⟩
    case round=>
     clear S3 H2;obtain⟨s,C,Z,rfl,hs0,hsn,hg2,S1,H⟩:=hrel;by_cases hlt:s<n
     · have hltz:(s:Int)<(n:Int):=by omega
       obtain⟨t,ht⟩:∃t,t=2*s:=⟨_,rfl⟩;(have e2s:2*(s:Int)=(t:Int):=by omega);(have es2:(s:Int)*2=(t:Int):=by omega);(have HT:Hid (t=s+s):=by show _=_;omega);clear ht;(have htb:t≤n+n:=by have:=HT.out;omega);go_wp2
       go_loopg [7,8] n (fun g s7 s8 wr=>∃(a:Nat) (D E:List (List Pr)),s7 = .int .i64 a∧s8 = .int .i64 ((a+t:Nat):Int)∧a≤n∧n-a≤g∧Aside (SWK encP 3 w0 blk off (D.flatten++(E.flatten++Z)).toArray wr)∧Hid ((∀c∈D,c.length=t∧Up zAa c)∧Blk s E Z∧D.flatten.length=a∧(D.flatten++(E.flatten++Z)).length=n∧∀k,Mq.of k (D.flatten++(E.flatten++Z))=Mq.of k l0))
       case atStart=>exact⟨0,[],C,rfl,by go_num,Nat.zero_le _,by(have:=HT.out;omega),S1,(show Hid _ from⟨fun c hc=>absurd hc (List.not_mem_nil),H.out.1,rfl,H.out.2.1,H.out.2.2⟩)⟩
       case round=>
        clear S1 H;obtain⟨a,D,E,rfl,rfl,han,hg3,S1,H⟩:=hrel;obtain⟨am,has⟩:∃am,am=a+s:=⟨_,rfl⟩;(have eas:(a:Int)+(s:Int)=(am:Int):=by(have:=HT.out;omega));have HAS:Hid (am=a+s):=has;clear has;have hlen:Hid (a+(s*E.length+Z.length)=n):=by
         have h1:=H.out.2.2.2.1;rw[List.length_append,H.out.2.2.1,List.length_append,flat_len6 H.out.2.1.all]at h1;exact h1
        by_cases hle2:a+t≤n
        · have hle2z:((a+t:Nat):Int)≤(n:Int):=by(have:=HT.out;omega)
          obtain⟨c1,c2,E',hE⟩:∃c1 c2 E',E=c1::c2::E':=by
           have h1:=hlen.out;have h2:=H.out.2.1.lt
           match E,h1 with
           |[],h1=>simp at h1;(have:=HT.out;omega)
           |[c],h1=>simp at h1;(have:=HT.out;omega)
           |c1::c2::E',_=>exact⟨c1,c2,E',rfl⟩
          have HE:Hid (E=c1::c2::E'):=hE;have hc1:=H.out.2.1.all c1 (by rw[hE];simp);have hc2:=H.out.2.1.all c2 (by rw[hE];simp);have HC:Hid ((c1.length=s∧Up zAa c1)∧(c2.length=s∧Up zAa c2)):=⟨hc1,hc2⟩;have hc:=symMerge_any blk off n cap w0 R (c1.length+c2.length) wr D.flatten c1 c2 (E'.flatten++Z) (by have h:=S1.out;rw[hE]at h;simpa using h) (by have h:=H.out.2.2.2.1;rw[hE]at h;simpa using h) hc1.2 hc2.2 (by(have:=HT.out;omega)) (by(have:=HT.out;omega)) (Nat.le_refl _) a am (a+t) H.out.2.2.1.symm (by have:=HAS.out;(have:=HT.out;omega)) (by have:=HAS.out;(have:=HT.out;omega));(have eb:((a+t:Nat):Int)+((t:Nat):Int)=((a+t+t:Nat):Int):=by(have:=HT.out;omega));clear hE hc1 hc2 S1;go_wp2_with (go_at_call 159;refine hc.mono ?_;rintro e w2 ⟨rfl,X,hX,S2⟩);have HX:Hid (Stably zAa (c1++c2) X):=hX;have S3:Aside (SWK encP 3 w0 blk off ((D++[X]).flatten++(E'.flatten++Z)).toArray w2):=aside (by have h:=S2;simpa using h);clear hX S2;go_roundg (n-(a+t));case measure=>(have:=HT.out;omega)
          case rel=>
           refine⟨a+t,D++[X],E',by first|rfl|go_num,by first|rfl|go_num|rw[←eb],hle2,Nat.le_refl _,S3,?_,?_,?_,?_,?_⟩
           · intro c hcm
             rcases List.mem_append.1 hcm with h|h
             · exact H.out.1 c h
             · rw[List.mem_singleton.1 h]
               have h1:=HX.out.len;have h2:=HC.out;rw[List.length_append]at h1;exact⟨by(have:=HT.out;omega),HX.out.1⟩
           · exact⟨fun c hc=>H.out.2.1.all c (by rw[HE.out];simp[hc]),H.out.2.1.up,H.out.2.1.lt⟩
           · have h1:=H.out.2.2.1
             have h2:=HX.out.len;have h3:=HC.out;simp at h1 h2 ⊢
             (have:=HT.out;omega)
           · have h1:=H.out.2.2.2.1
             have h2:=HX.out.len;rw[HE.out]at h1;simp at h1 h2 ⊢
             (have:=HT.out;omega)
           · intro k
             have h3:=of_same_mid (A:=D.flatten) (B:=E'.flatten++Z) HX.out k;rw[←H.out.2.2.2.2 k,HE.out];simp only[List.flatten_append,List.flatten_cons,List.flatten_nil,List.append_nil,List.append_assoc]at h3 ⊢;exact h3
        · have hle2z:¬((a+t:Nat):Int)≤(n:Int):=by(have:=HT.out;omega)
          by_cases hmn:a+s<n
          · have hmnz:(am:Int)<(n:Int):=by have:=HAS.out;(have:=HT.out;omega)
            obtain⟨c,hE⟩:∃c,E=[c]:=by
             have h1:=hlen.out;have h2:=H.out.2.1.lt
             match E,h1 with
             |[],h1=>simp at h1;(have:=HT.out;omega)
             |[c],h1=>exact⟨c,rfl⟩
             |c1::c2::E',h1=>
              exfalso;rw[List.length_cons,List.length_cons]at h1;have:s*(E'.length+1+1)=s*E'.length+s+s:=by rw[Nat.mul_add,Nat.mul_add];(have:=HT.out;omega)
              (have:=HT.out;omega)
            have HE:Hid (E=[c]):=hE;have hcc:=H.out.2.1.all c (by rw[hE];simp);have HC:Hid (c.length=s∧Up zAa c):=hcc;have hl:=hlen.out;rw[hE]at hl;simp at hl;have hc:=symMerge_any blk off n cap w0 R (c.length+Z.length) wr D.flatten c Z [] (by have h:=S1.out;rw[hE]at h;simpa using h) (by have h:=H.out.2.2.2.1;rw[hE]at h;simpa using h) hcc.2 H.out.2.1.up (by(have:=HT.out;omega)) (by(have:=HT.out;omega)) (Nat.le_refl _) a am n H.out.2.2.1.symm (by have:=HAS.out;(have:=HT.out;omega)) (by have:=HAS.out;(have:=HT.out;omega));clear hE hcc S1 hl;go_wp2_with (go_at_call 159;refine hc.mono ?_;rintro e w2 ⟨rfl,X,hX,S2⟩);have HX:Hid (Stably zAa (c++Z) X):=hX;have S3:Aside (SWK encP 3 w0 blk off (D.flatten++X).toArray w2):=aside (by have h:=S2;simpa using h);clear hX S2;go_roundg (n-t);case measure=>(have:=HT.out;omega)
            case rel=>
             refine⟨t,D,X,by first|rfl|go_num|rw[←es2],by(have:=HT.out;omega),by(have:=HT.out;omega),Nat.le_refl _,S3,⟨H.out.1,HX.out.1,?_⟩,?_,?_⟩
             · have h1:=HX.out.len
               have h2:=HC.out.1;have h3:=H.out.2.1.lt;rw[List.length_append]at h1
               (have:=HT.out;omega)
             · have h1:=H.out.2.2.2.1
               have h2:=HX.out.len;rw[HE.out]at h1;simp at h1 h2 ⊢
               (have:=HT.out;omega)
             · intro k
               rw[←H.out.2.2.2.2 k,HE.out,of_append,HX.out.2,←of_append];simp
          · have hmnz:¬(am:Int)<(n:Int):=by have:=HAS.out;(have:=HT.out;omega)
            have HU:Hid (Up zAa (E.flatten++Z)):=by
             refine blk_done (n:=n-a) H.out.2.1 hs0 ?_ (by(have:=HT.out;omega));have h1:=H.out.2.2.2.1;rw[List.length_append,H.out.2.2.1]at h1
             (have:=HT.out;omega)
            go_wp2;go_roundg (n-t);case measure=>(have:=HT.out;omega)
            case rel=>
             refine⟨t,D,E.flatten++Z,by first|rfl|go_num|rw[←es2],by(have:=HT.out;omega),by(have:=HT.out;omega),Nat.le_refl _,S1,⟨H.out.1,HU.out,?_⟩,H.out.2.2.2.1,H.out.2.2.2.2⟩;have h1:=H.out.2.2.2.1;rw[List.length_append,H.out.2.2.1]at h1
             (have:=HT.out;omega)
     · have hltz:¬(s:Int)<(n:Int):=by omega
       go_wp2
       go_end0
       exact⟨rfl,_,⟨blk_done H.out.1 hs0 H.out.2.1 (by omega),H.out.2.2⟩,S1.out⟩
set_option maxHeartbeats 2000000 in
theorem sortStable_any(blk off n cap:Nat)(w0 w:World)(R:RowP w0 blk off n)(hn50:n<1125899906842624)(l0:List Pr)(S:SWK encP 3 w0 blk off l0.toArray w)(hn:l0.length=n):
 Calls Tryz.prog 80 #[.slice (some ⟨blk,off,none⟩) n cap,.func (.func 81) #[] #[]] w fun e w'=>e = .returned (.tuple #[])∧∃l',Stably zAa l0 l'∧SWK encP 3 w0 blk off l'.toArray w':=by
 have hc:=stable_any blk off n cap w0 w R hn50 l0 S hn;clear S;go_enter Tryz.func80,Tryz.ntmps80;go_wp2_with (go_at_call 123;refine hc.mono ?_;rintro e w2 ⟨rfl,l',h1,h2⟩)
 go_end0
 exact⟨rfl,l',h1,h2⟩
end Mq
end
section
open Go.RowKit Go.Shelf Go.Lib Go.Sort Pm Nums Ed
namespace Mg
def mtch(word:List UInt8)(edits:Int)(p:Pr):Option Mq.Pr:=
 if p.2≤0∨zAp p.1.data.toList=false then none
 else match dsE p.1.data.toList word with
  |some d=>if (d:Int)≤edits then some (p.1,p.2,(d:Int))else none
  |none=>none
theorem zDe{tmps:Array Value}{w:World}{rb:Nat}{a b c:Value}(h2:tmps.getD 6 undef = .pointer (some ⟨rb,0,none⟩))(c0:w.cell? ⟨rb,0,none⟩=some a)(c1:w.cell? ⟨rb,1,none⟩=some b)(c2:w.cell? ⟨rb,2,none⟩=some c):(results Tryz.f79 tmps).run Tryz.prog w = .ok (.tuple #[.agg #[a,b,c],tmps.getD 7 undef]) w:=by
 have h2':tmps[6]?.getD undef = .pointer (some ⟨rb,0,none⟩):=by simpa using h2
 simp[results,Tryz.results79,go_sem,h2',c0,c1,c2]
theorem zX4(w:World)(o:Obj):(w.alloc o).heap[w.heap.size]?=some o:=by show(w.heap.push o)[w.heap.size]?=_;simp
theorem zGm(w1:World)(mb:Nat)(a b c:Value)(hb:w1.heap[mb]?=some (.cells #[a,b,c] 74))(x:Mq.Pr)(B:Nat)(hB:B≤mb):
 ∃W,Mq.storeP Tryz.prog (.pointer (some ⟨mb,0,none⟩)) (Mq.valP x) w1 = .ok () W∧Below B w1 W∧W.heap[mb]?=some (.cells (Mq.encP x).toArray 74):=by
 refine⟨w1.setCells mb 0 (Mq.encP x),Mq.storeP_at (u:=a) (v:=b) (z:=c) (by simp[World.cell?,hb]) (by simp[World.cell?,hb]) (by simp[World.cell?,hb]) (by simp[World.frozen?,hb]) (by simp[World.frozen?,hb]) (by simp[World.frozen?,hb]),?_,?_⟩
 · show Below B w1 (((w1.setCell ⟨mb,0,none⟩ _).setCell ⟨mb,1,none⟩ _).setCell ⟨mb,2,none⟩ _)
   exact(((Below.refl B w1).setCell (p:=⟨mb,0,none⟩) hB _).setCell (p:=⟨mb,1,none⟩) hB _).setCell (p:=⟨mb,2,none⟩) hB _
 · simp[Mq.encP,World.setCells,World.setCell,Array.getElem?_modify,hb]
theorem zPh{W:World}{mb:Nat}{x:Mq.Pr}(h:W.heap[mb]?=some (.cells (Mq.encP x).toArray 74)):W.cell? ⟨mb,0,none⟩=some (.string x.1)∧W.cell? ⟨mb,1,none⟩=some (.int .i64 x.2.1)∧W.cell? ⟨mb,2,none⟩=some (.int .i64 x.2.2):=by
 refine⟨by simp[World.cell?,h,Mq.encP],by simp[World.cell?,h,Mq.encP],by simp[World.cell?,h,Mq.encP]⟩
def zRt(w w':World)(o:Option Mq.Pr)(e:Ending):Prop:=Below w.heap.size w w'∧((o=none∧∃m,e = .returned (.tuple #[Mq.valP m,.bool false]))∨∃m,o=some m∧e = .returned (.tuple #[Mq.valP m,.bool true]))
theorem zHc{w Wz:World}{rb:Nat}{o:Option Mq.Pr}(hz:Wz.heap[rb]?=some (.cells #[.string ⟨#[]⟩,.int .i64 0,.int .i64 0] 74))(hb:Below w.heap.size w Wz)(hr:w.heap.size≤rb)(ho:o=none):
 ∃W3,Mq.storeP Tryz.prog (.pointer (some ⟨rb,0,none⟩)) (.agg #[.string ⟨#[]⟩,.int .i64 0,.int .i64 0]) Wz = .ok () W3∧W3.cell? ⟨rb,0,none⟩=some (.string ⟨#[]⟩)∧W3.cell? ⟨rb,1,none⟩=some (.int .i64 0)∧W3.cell? ⟨rb,2,none⟩=some (.int .i64 0)∧Hid (zRt w W3 o (.returned (.tuple #[Mq.valP (⟨#[]⟩,0,0),.bool false]))):=by
 obtain⟨W3,hst,hb3,hc3⟩:=zGm Wz rb _ _ _ hz (⟨#[]⟩,0,0) w.heap.size hr;obtain⟨k0,k1,k2⟩:=zPh hc3;exact⟨W3,hst,k0,k1,k2,hb.trans hb3,.inl ⟨ho,_,rfl⟩⟩
theorem zTq{w Wz:World}{rb:Nat}{o:Option Mq.Pr}(x:Mq.Pr)(hz:Wz.heap[rb]?=some (.cells #[.string ⟨#[]⟩,.int .i64 0,.int .i64 0] 74))(hb:Below w.heap.size w Wz)(hr:w.heap.size≤rb)(ho:o=some x):
 ∃W3,Mq.storeP Tryz.prog (.pointer (some ⟨rb,0,none⟩)) (.agg #[.string x.1,.int .i64 x.2.1,.int .i64 x.2.2]) Wz = .ok () W3∧W3.cell? ⟨rb,0,none⟩=some (.string x.1)∧W3.cell? ⟨rb,1,none⟩=some (.int .i64 x.2.1)∧W3.cell? ⟨rb,2,none⟩=some (.int .i64 x.2.2)∧Hid (zRt w W3 o (.returned (.tuple #[Mq.valP x,.bool true]))):=by
 obtain⟨W3,hst,hb3,hc3⟩:=zGm Wz rb _ _ _ hz x w.heap.size hr;obtain⟨k0,k1,k2⟩:=zPh hc3;exact⟨W3,hst,k0,k1,k2,hb.trans hb3,.inr ⟨x,ho,rfl⟩⟩
attribute [local go_sem ↓] Mq.exec_store_P
set_option maxHeartbeats 1000000 in
theorem zVm(p:Pr)(ws:ByteArray)(word:List UInt8)(hw:ws.data.toList=word)(edits:Int)(w:World)(ht:Tabs w)(hp:p.1.size≤9223372036854775807)(hs:ws.size≤9223372036854775807):
 Calls Tryz.prog 79 #[.agg #[.string p.1,.int .i64 p.2],.string ws,.int .i64 edits] w fun e w'=>zRt w w' (mtch word edits p) e:=by
 obtain⟨V2,hV2⟩:∃V2,(w.alloc (.cells #[.string p.1,.int .i64 p.2] 64)).alloc (.cells #[.string ⟨#[]⟩,.int .i64 0,.int .i64 0] 74)=V2:=⟨_,rfl⟩;obtain⟨pb,hpb⟩:∃pb,w.heap.size=pb:=⟨_,rfl⟩;obtain⟨rb,hrb⟩:∃rb,pb+1=rb:=⟨_,rfl⟩;have HB2:Hid (Below w.heap.size w V2):=by show Below _ _ _;rw[←hV2];exact((Below.refl _ w).alloc (Nat.le_refl _) _).alloc (by simp) _
 have HR2:Hid (V2.heap[rb]?=some (.cells #[.string ⟨#[]⟩,.int .i64 0,.int .i64 0] 74)):=by
  have:=zX4 (w.alloc (.cells #[.string p.1,.int .i64 p.2] 64)) (.cells #[.string ⟨#[]⟩,.int .i64 0,.int .i64 0] 74);rw[hV2]at this;show V2.heap[rb]?=_;rw[←hrb,←hpb];simpa using this
 have hP2:V2.heap[pb]?=some (.cells #[.string p.1,.int .i64 p.2] 64):=by
  rw[←hV2,←hpb];show((w.heap.push _).push _)[w.heap.size]?=_;simp only[Array.getElem?_push,Array.size_push];rw[if_neg (by omega),if_pos trivial]
 have HRB:Hid (w.heap.size≤rb):=by show w.heap.size≤rb;omega
 have p0:V2.cell? ⟨pb,0,none⟩=some (.string p.1):=by simp[World.cell?,hP2]
 have p1:V2.cell? ⟨pb,1,none⟩=some (.int .i64 p.2):=by simp[World.cell?,hP2]
 have HP2:Hid (V2.heap[pb]?=some (.cells #[.string p.1,.int .i64 p.2] 64)):=hP2;have HT2:Hid (Tabs V2):=ht.below HB2.out;clear hP2;by_cases h0:p.2≤0
 · have HNO:Hid (mtch word edits p=none):=by show mtch word edits p=none;unfold mtch;rw[if_pos (.inl h0)]
   obtain⟨W3,hst2,k0,k1,k2,HFIN⟩:=zHc HR2.out HB2.out HRB.out HNO.out;go_enter Tryz.func79,Tryz.ntmps79;go_wp2;refine bodyPost_ret (zDe rfl k0 k1 k2) rfl ?_;exact HFIN.out
 · have HWD:Hid (Calls Tryz.prog 56 #[.string p.1] V2 fun e w'=>e = .returned (.bool (zAp p.1.data.toList))∧∃n,w'=V2.drewN n):=zB5 p.1 V2 HT2.out hp
   (have HDR:Hid (∀q,(V2.drewN q).heap[rb]?=some (.cells #[.string ⟨#[]⟩,.int .i64 0,.int .i64 0] 74)∧Below w.heap.size w (V2.drewN q)):=fun q=>⟨HR2.out,belowN HB2.out q⟩);cases hwb:zAp p.1.data.toList
   · rw[hwb]at HWD
     (have HNO:Hid (mtch word edits p=none):=by show mtch word edits p=none;unfold mtch;rw[if_pos (.inr hwb)]);clear hwb;go_enter Tryz.func79,Tryz.ntmps79;go_wp2_with (go_at_call 56;refine HWD.out.mono ?_;rintro e w3 ⟨rfl,q,hq⟩;subst hq;obtain⟨W3,hst2,k0,k1,k2,HFIN⟩:=zHc (HDR.out q).1 (HDR.out q).2 HRB.out HNO.out);refine bodyPost_ret (zDe rfl k0 k1 k2) rfl ?_;exact HFIN.out
   · rw[hwb]at HWD
     have HMT:Hid (mtch word edits p=match dsE p.1.data.toList word with|some d=>if (d:Int)≤edits then some (p.1,p.2,(d:Int))else none|none=>none):=by
      show mtch word edits p=_;unfold mtch;rw[if_neg (by rintro(h|h);exact h0 h;rw[hwb]at h;cases h)]
     have HDI:Hid (∀q,Calls Tryz.prog 122 #[.string p.1,.string ws] (V2.drewN q) fun e w'=>e = .returned (dsV (dsE p.1.data.toList word))∧Below (V2.drewN q).heap.size (V2.drewN q) w'):=fun q=>by
      have:=zN2 p.1 ws (V2.drewN q) (ht.below ((HDR.out q).2)) hp hs;rw[hw]at this;exact this
     have HAF:Hid (∀q w4,Below (V2.drewN q).heap.size (V2.drewN q) w4→w4.heap[rb]?=some (.cells #[.string ⟨#[]⟩,.int .i64 0,.int .i64 0] 74)∧Below w.heap.size w w4∧w4.cell? ⟨pb,0,none⟩=some (.string p.1)∧w4.cell? ⟨pb,1,none⟩=some (.int .i64 p.2)):=fun q w4 hb4=>by
      have h1:=(hb4.block rb (Array.getElem?_eq_some_iff.1 (HDR.out q).1).1).trans (HDR.out q).1;have h2:=hb4.block pb (Array.getElem?_eq_some_iff.1 HP2.out).1;have h3:w4.heap[pb]?=some (.cells #[.string p.1,.int .i64 p.2] 64):=h2.trans HP2.out;exact⟨h1,(HDR.out q).2.trans (hb4.mono (HDR.out q).2.size),by simp[World.cell?,h3],by simp[World.cell?,h3]⟩
     clear hwb;cases hds:dsE p.1.data.toList word with
     |none=>
      rw[hds]at HDI HMT;clear hds;go_enter Tryz.func79,Tryz.ntmps79
      go_wp2_with (first
       |(go_at_call 56;refine HWD.out.mono ?_;rintro e w3 ⟨rfl,q,hq⟩;subst hq)
       |(go_at_call 122;refine(HDI.out q).mono ?_;rintro e w4 ⟨rfl,hb4⟩;obtain⟨hz4,hbw4,_⟩:=HAF.out q w4 hb4;obtain⟨W3,hst2,k0,k1,k2,HFIN⟩:=zHc hz4 hbw4 HRB.out HMT.out;clear hz4 hbw4 hb4;unfold dsV))
      refine bodyPost_ret (zDe rfl k0 k1 k2) rfl ?_;exact HFIN.out
     |some d=>
      rw[hds]at HDI HMT;clear hds;by_cases hde:(d:Int)≤edits
      · have HMS:Hid (mtch word edits p=some (p.1,p.2,(d:Int))):=by have:=HMT.out;simp only[hde,if_true]at this;exact this
        (have hde2:¬(d:Int)>edits:=by omega);go_enter Tryz.func79,Tryz.ntmps79
        go_wp2_with (first
         |(go_at_call 56;refine HWD.out.mono ?_;rintro e w3 ⟨rfl,q,hq⟩;subst hq)
         |(go_at_call 122;refine(HDI.out q).mono ?_;rintro e w4 ⟨rfl,hb4⟩;obtain⟨hz4,hbw4,q0,q1⟩:=HAF.out q w4 hb4;obtain⟨W3,hst2,k0,k1,k2,HFIN⟩:=zTq _ hz4 hbw4 HRB.out HMS.out;clear hz4 hbw4 hb4;unfold dsV))
        refine bodyPost_ret (zDe rfl k0 k1 k2) rfl ?_;exact HFIN.out
      · have HMS:Hid (mtch word edits p=none):=by have:=HMT.out;simp only[hde,if_false]at this;exact this
        (have hde2:edits<(d:Int):=by omega);go_enter Tryz.func79,Tryz.ntmps79
        go_wp2_with (first
         |(go_at_call 56;refine HWD.out.mono ?_;rintro e w3 ⟨rfl,q,hq⟩;subst hq)
         |(go_at_call 122;refine(HDI.out q).mono ?_;rintro e w4 ⟨rfl,hb4⟩;obtain⟨hz4,hbw4,_⟩:=HAF.out q w4 hb4;obtain⟨W3,hst2,k0,k1,k2,HFIN⟩:=zHc hz4 hbw4 HRB.out HMS.out;clear hz4 hbw4 hb4;unfold dsV))
        refine bodyPost_ret (zDe rfl k0 k1 k2) rfl ?_;exact HFIN.out
end Mg
end
section
open Go.RowKit Go.Lib Nums Pm
namespace Bt
def MRow(w:World)(v:Value)(l:List Mt):Prop:=GRow w.heap.size 3 w v (l.map cellsM)
theorem MRow.below{w w':World}{v:Value}{l:List Mt}(h:MRow w v l)(hb:Below w.heap.size w w'):MRow w' v l:=(GRow.below h hb).mono hb.size
theorem MRow.form{w:World}{v:Value}{l:List Mt}(h:MRow w v l):∃ad cap,v = .slice ad l.length cap:=by
 obtain⟨ad,cap,e⟩:=GRow.shape h;exact⟨ad,cap,by rw[e,List.length_map]⟩
theorem MRow.at{w:World}{ad:Option Addr}{n cap:Nat}{l:List Mt}(h:MRow w (.slice ad n cap) l)(h0:0<l.length):∃g off,ad=some ⟨g,off,none⟩∧g<w.heap.size∧∀k x,l[k]?=some x→w.cell? ⟨g,off+k*3,none⟩=some (.string x.1)∧w.cell? ⟨g,off+k*3+1,none⟩=some (.int .i64 x.2.1)∧w.cell? ⟨g,off+k*3+2,none⟩=some (.int .i64 x.2.2):=by
 obtain⟨ad',cap',hv,hc⟩:=h.ex;simp only[Value.slice.injEq]at hv;obtain⟨g,off,rfl,hg,hx⟩:=hc (by rw[List.length_map];omega);refine⟨g,off,hv.1,hg,fun k x hk=>?_⟩;have e:(l.map cellsM)[k]?=some (cellsM x):=by rw[List.getElem?_map,hk];rfl
 exact⟨hx k 0 _ _ e rfl,hx k 1 _ _ e rfl,hx k 2 _ _ e rfl⟩
theorem MRow.load{w:World}{ad:Option Addr}{n cap:Nat}{l:List Mt}(h:MRow w (.slice ad n cap) l){k:Nat}{x:Mt}(hk:l[k]?=some x):∃g off,ad=some ⟨g,off,none⟩∧g<w.heap.size∧zFp Tryz.prog (.pointer (some ⟨g,off+k*3,none⟩)) w = .ok (valM x) w:=by
 obtain⟨g,off,rfl,hg,hc⟩:=h.at (by have:=(List.getElem?_eq_some_iff.1 hk).1;omega);obtain⟨c0,c1,c2⟩:=hc k x hk;exact⟨g,off,rfl,hg,zDp c0 c1 c2⟩
def kk(k:Int):Nat:=(min k 64).toNat
theorem zTe(k:Nat)(l:List Mt)(j:Nat)(x:Mt)(hx:l[j]?=some x):bestF k (l.take (j+1))=stp k (bestF k (l.take j)) x:=by
 obtain⟨hj,e⟩:=List.getElem?_eq_some_iff.1 hx;rw[List.take_succ_eq_append_getElem hj,zTf,e]
structure SeR(w:World)(p:Nat)(k:Int)(l:List Mt)(j:Nat)(wr:World)(h:List Mt)(vk:Value):Prop where
 K:KAt w.heap.size wr p (min k 64) vk h
 kp:Kp (kk k) (bestF (kk k) (l.take j)) h
 bel:Below w.heap.size w wr
theorem SeR.step{w:World}{p:Nat}{k:Int}{l:List Mt}{j:Nat}{wr W w':World}{h:List Mt}{vk:Value}{x:Mt}(R:SeR w p k l j wr h vk)(hb:Below wr.heap.size wr W)(hx:l[j]?=some x)(A:AddSays w.heap.size W w' p (min k 64) vk (bestF (kk k) (l.take j)) x):∃h' v',SeR w p k l (j+1) w' h' v':=by
 obtain⟨v',h',hK,hkp,_⟩:=A.ex;refine⟨h',v',hK,?_,?_⟩
 · rw[zTe _ _ _ _ hx];exact hkp
 · have hbW:Below w.heap.size w W:=R.bel.trans (hb.mono R.bel.size)
   exact hbW.trans (A.up.below (fun q hq=>KF.low R.K hq) hbW.size)
theorem zVd(w2:World)(x:Mt):
 ∃W3,zC7 Tryz.prog (.pointer (some ⟨w2.heap.size,0,none⟩)) (valM x) (w2.alloc (.cells #[.string ⟨#[]⟩,.int .i64 0,.int .i64 0] 74)) = .ok () W3∧Below w2.heap.size w2 W3∧zFp Tryz.prog (.pointer (some ⟨w2.heap.size,0,none⟩)) W3 = .ok (valM x) W3∧W3.heap[w2.heap.size]?=some (.cells (cellsM x).toArray 74):=by
 obtain⟨V3,hV3⟩:∃V3,w2.alloc (.cells #[.string ⟨#[]⟩,.int .i64 0,.int .i64 0] 74)=V3:=⟨_,rfl⟩;have hb3:Below w2.heap.size w2 V3:=by rw[←hV3];exact(Below.refl _ w2).alloc (Nat.le_refl _) _
 have hn3:V3.heap[w2.heap.size]?=some (.cells #[.string ⟨#[]⟩,.int .i64 0,.int .i64 0] 74):=by rw[←hV3];exact zBv _ _
 obtain⟨W3,hst,hu3,hc3⟩:=zD7 V3 w2.heap.size _ _ _ hn3 x;rw[hV3];exact⟨W3,hst,hb3.trans (hu3.below (B:=w2.heap.size) (fun k e=>by have:k=w2.heap.size:=e;omega) hb3.size),zKz hc3,hc3⟩
attribute [local go_sem ↓] zB3 zBu
set_option maxHeartbeats 1000000 in
theorem Select_any(w:World)(v:Value)(l:List Mt)(k:Int)(h:MRow w v l)(hl:l.length<4611686018427387904):
 Calls Tryz.prog 48 #[v,.int .i64 k] w fun e w'=>∃vl,e = .returned vl∧GOwn 74 3 w.heap.size w' vl ((bestF (kk k) l).map cellsM)∧Below w.heap.size w w':=by
 obtain⟨ad,cap,rfl⟩:=h.form;obtain⟨n,hn⟩:∃n,l.length=n:=⟨_,rfl⟩;rw[hn]at h hl ⊢;have HROW:Hid (MRow w (.slice ad n cap) l):=h;have HN:Hid (l.length=n):=hn;have HNEW:Hid (Calls Tryz.prog 83 #[.int .i64 k] w fun e w'=>e = .returned (.pointer (some ⟨w.heap.size,0,none⟩))∧KAt w.heap.size w' w.heap.size (min k 64) (.slice none 0 0) []∧Below w.heap.size w w'):=New_any w k;have hmf:∀(fn:Fn) (first cap:Array Value) (w:World),(Instr.makeFunc fn first cap).run Tryz.prog w = .ok (.func fn first cap) w:=fun _ _ _ _=>rfl
 obtain⟨p,hp⟩:∃p,w.heap.size=p:=⟨_,rfl⟩;rw[hp]at HNEW;have HP:Hid (w.heap.size=p):=hp;clear h hn hp;go_enter Tryz.func48,Tryz.ntmps48;go_wp2_with (go_at_call 83;refine HNEW.out.mono ?_;rintro e w1 ⟨rfl,hK1,hb1⟩;have HR0:Hid (∃h vk,SeR w p k l 0 w1 h vk):=⟨[],.slice none 0 0,by rw[HP.out];exact hK1,by rw[List.take_zero];exact Kp.nil _,by rw[HP.out];exact hb1⟩;clear hK1 hb1)
 go_loopg [15] n (fun g s15 wr=>∃(j:Nat),s15 = .int .i64 j∧j≤n∧n-j≤g∧Hid (∃h vk,SeR w p k l j wr h vk))
 case atStart=>exact⟨0,rfl,Nat.zero_le _,by omega,HR0⟩
 case round=>
  obtain⟨j,rfl,hjn,hg,HR⟩:=hrel;by_cases hlt:j<n
  · have hltz:(j:Int)<(n:Int):=by omega
    obtain⟨x,hx⟩:∃x,l[j]?=some x:=⟨l[j]'(by have:=HN.out;omega),List.getElem?_eq_getElem _⟩;obtain⟨h',vk,hR⟩:=HR.out;have HS:Hid (SeR w p k l j wr h' vk):=hR;obtain⟨g0,off,rfl,hg0,hld⟩:=(HROW.out.below hR.bel).load hx;obtain⟨W3,hst,hbW,hld2,_⟩:=zVd wr x;have HAD:Hid (Calls Tryz.prog 84 #[.pointer (some ⟨p,0,none⟩),valM x] W3 fun e w'=>e = .returned (.bool (zIv (kk k) (bestF (kk k) (l.take j)) x))∧AddSays w.heap.size W3 w' p (min k 64) vk (bestF (kk k) (l.take j)) x):=Add_any w.heap.size W3 p (min k 64) vk h' _ x (hR.K.below hbW) hR.kp (by omega);have HX:Hid (l[j]?=some x):=hx;have HBW:Hid (Below wr.heap.size wr W3):=hbW;clear hx hR hg0 hbW HR;go_wp2_with (go_at_call 84;refine HAD.out.mono ?_;rintro e w4 ⟨rfl,hA⟩;have HR4:Hid (∃h vk,SeR w p k l (j+1) w4 h vk):=HS.out.step HBW.out HX.out hA;clear hA);go_roundg (n-(j+1));(case measure=>omega);case rel=>exact⟨j+1,by go_num,by omega,Nat.le_refl _,HR4⟩
  · have hkn:j=n:=by omega
    subst hkn;obtain⟨h',vk,hR⟩:=HR.out;have HTK:Hid (Calls Tryz.prog 85 #[.pointer (some ⟨p,0,none⟩)] wr fun e w'=>∃vl,e = .returned vl∧GOwn 74 3 wr.heap.size w' vl ((bestF (kk k) (l.take j)).map cellsM)∧Upd (KF p vk) wr w'∧∃v',KAt w.heap.size w' p (min k 64) v' []∧v'.ownBlock=vk.ownBlock):=Take_any w.heap.size wr p (min k 64) vk h' _ hR.K hR.kp (by omega);have HE:Hid (l.take j=l):=List.take_of_length_le (by have:=HN.out;omega);have HS:Hid (SeR w p k l j wr h' vk):=hR;clear hR HR;go_wp2_with (go_at_call 85;refine HTK.out.mono ?_;rintro e w4 ⟨vl,rfl,hgo,hu4,_⟩);go_ret;refine⟨vl,rfl,?_,?_⟩
    · have:=hgo.mono (B':=w.heap.size) HS.out.bel.size
      rw[HE.out]at this;exact this
    · exact HS.out.bel.trans (hu4.below (fun q hq=>KF.low HS.out.K hq) HS.out.bel.size)
end Bt
end
section
open Go.ChangeShapes Go.WideShapes Go.ChangeAt Go.RowKit
theorem own:ownKnob Tryz.prog.godebug=none:=by kernel_rfl
theorem zMz : Tryz.prog.globalNamed "abecedary/letters.least" = some 1 := by kernel_rfl
theorem zWt : Tryz.prog.globalNamed "abecedary/letters.lead" = some 0 := by kernel_rfl
theorem zSt:(Tryz.prog.globals[1]?).map (·.type)=some 204:=by kernel_rfl
theorem zWs:(Tryz.prog.globals[0]?).map (·.type)=some 203:=by kernel_rfl
theorem zTc:Tryz.prog.cellsOf 204=5:=by kernel_rfl
theorem zXr:Tryz.prog.cellsOf 203=5:=by kernel_rfl
theorem zTb:Tryz.prog.cellsOf 21=1:=by kernel_rfl
theorem zXt:Tryz.prog.cellsOf 5=1:=by kernel_rfl
abbrev laidBoth : List (String × DataW Unit) := [("abecedary/letters.least", Rows.laid_abecedary_letters_least), ("abecedary/letters.lead", Rows.laid_abecedary_letters_lead)]
theorem zB6{W:World}(h:laidMetH Tryz.prog laidBoth W):Tabs W:=by
 have t : Lib.TabIs Tryz.prog W "abecedary/letters.least" .i32 [0, 0, 128, 2048, 65536] :=
  Lib.tabIs_of_head (rest := [("abecedary/letters.lead", Rows.laid_abecedary_letters_lead)]) zMz zSt Tryz.underlying204 Tryz.underlying21 zTb zTc h
 have h2 : laidMetH Tryz.prog [("abecedary/letters.lead", Rows.laid_abecedary_letters_lead)] W := laidMetH.filter (fun x => x.1 == "abecedary/letters.lead") h
 have l : Lib.TabIs Tryz.prog W "abecedary/letters.lead" .u8 [0, 0, 192, 224, 240] :=
  Lib.tabIs_of_head (rest:=[]) zWt zWs Tryz.underlying203 Tryz.underlying5 zXt zXr h2
 exact⟨l.cell zWt 2 (by decide),l.cell zWt 3 (by decide),l.cell zWt 4 (by decide),l.cell zWt 1 (by decide),
  t.cell zMz 1 (by decide),t.cell zMz 2 (by decide),t.cell zMz 3 (by decide),t.cell zMz 4 (by decide)⟩
def layLeast:Obj→Obj
 |.cells _ t frozen => .cells #[.int .i32 0,.int .i32 0,.int .i32 128,.int .i32 2048,.int .i32 65536] t frozen
 |o=>o
def layLead:Obj→Obj
 |.cells _ t frozen => .cells #[.int .u8 0,.int .u8 0,.int .u8 192,.int .u8 224,.int .u8 240] t frozen
 |o=>o
noncomputable def laidWorld(os:Os):World:=
 { World.holding Tryz.prog os ⟨#[],#[],[]⟩with heap:=((World.holding Tryz.prog os ⟨#[],#[],[]⟩).heap.modify 1 layLeast).modify 0 layLead }
end
section
open Go.ChangeShapes Go.WideShapes Go.ChangeAt Go.RowKit Go.Deep
theorem zCa:laidOutB Tryz.prog=true:=by kernel_rfl
theorem zMi:Tryz.prog.cellsOf 64=2:=by kernel_rfl
theorem zG8:Tryz.prog.cellsOf 9=1:=by kernel_rfl
theorem zHd:Tryz.prog.cellsOf 3=1:=by kernel_rfl
def big{H:Type}(d:DataW H):Nat:=match d with
 |.slice elems spare=>elems.length+spare.length
 |_=>0
theorem zSj{H:Type}{enc:TypeId×Value→H}{W:World}{fuel:Nat}{cs:List Value}{x:DataW H×List MemPlace}
 (h:DataW.trod enc Tryz.prog W 0 (fun _=>true) true fuel 64 cs=some x):∃p:Pr,cs=[.string p.1,.int .i64 p.2]∧p.1.size≤9223372036854775807:=by
 obtain⟨y0,y1,n,_,hl,g0,g1⟩:=trod_struct2 Tryz.underlying64 h;rw[zMi]at hl
 match cs,hl with
 |[v0,v1],_=>
  simp[zG8,zHd]at g0 g1;obtain⟨s,e0,_,w0⟩:=DataW.trod_string Tryz.underlying9 g0;obtain⟨z,e1,_,w1⟩:=DataW.trod_int Tryz.underlying3 g1;simp only[List.cons.injEq,and_true]at e0 e1;subst e0 e1;refine⟨(s,z),rfl,?_⟩;have hw:=w0;unfold maxLen at hw;exact hw
theorem zFm{H:Type}{enc:TypeId×Value→H}{W:World}{base:Nat}{v:Value}{d:DataW H}{p:List MemPlace}
 (hok:Value.okWide Tryz.prog W .any base 22 v) (h:DataW.Trod enc Tryz.prog W 0 (fun _=>true) true 22 v d p):∃L:List Pr,PRow W v L∧Sm L∧L.length≤9223372036854775807∧L.length≤big d:=by
 obtain⟨a0,len,cap,rfl⟩:=okWide_slice Tryz.underlying22 hok;obtain⟨fuel,hf⟩:=h;rcases open_slice Tryz.underlying22 hf with⟨hcs,hx⟩|⟨a,len',cap',m,n,D,Pl,hcs,_,hl,hm,hmm,hx,hel⟩
 · simp[Value.cells]at hcs
   obtain⟨rfl,rfl,rfl⟩:=hcs;exact⟨[],PRow.nil W,(fun x hx=>absurd hx List.not_mem_nil),by simp,by simp⟩
 · simp[Value.cells]at hcs
   obtain⟨rfl,rfl,rfl⟩:=hcs;(have hlm:len≤m:=by rw[hmm];split<;>omega);have each:∀i,i<m→∃o:Pr,o.1.size≤9223372036854775807∧W.cell? (a.add (i*2))=some (.string o.1)∧W.cell? (a.add (i*2+1))=some (.int .i64 o.2):=by
    intro i hi;obtain⟨cs',h1,h2⟩:=hel i hi;rw[zMi]at h1;obtain⟨_,hlen,hcell⟩:=World.cells?_some h1;obtain⟨q,rfl,hq⟩:=zSj h2;have c0:=hcell 0 (by simp);have c1:=hcell 1 (by simp);rw[add_add]at c0 c1;exact⟨q,hq,by simpa using c0,by simpa using c1⟩
   have hch:∃f:Nat→Pr,∀i,i<m→(f i).1.size≤9223372036854775807∧W.cell? (a.add (i*2))=some (.string (f i).1)∧W.cell? (a.add (i*2+1))=some (.int .i64 (f i).2):=
    ⟨fun i=>if hi:i<m then Classical.choose (each i hi)else (ByteArray.empty,0),fun i hi=>by
     simp only[dif_pos hi];exact Classical.choose_spec (each i hi)⟩
   obtain⟨f,hfe⟩:=hch;have hget:∀i o,((List.range len).map f)[i]?=some o→i<len∧o=f i:=fun i o hi=>by
    rw[List.getElem?_map]at hi;have hil:i<len:=by
     cases hr:(List.range len)[i]? with
     |none=>rw[hr]at hi;cases hi
     |some j=>have:=(List.getElem?_eq_some_iff.1 hr).1;simpa using this
    rw[List.getElem?_range hil]at hi;simp only[Option.map_some,Option.some.injEq]at hi;exact⟨hil,hi.symm⟩
   refine⟨(List.range len).map f,⟨some a,cap,by simp,fun h0=>?_⟩,?_,by unfold maxLen at hm;simp;omega,?_⟩
   · have h0':0<len:=by simpa using h0
     obtain⟨b,off,rfl⟩:∃b off,a=⟨b,off,none⟩:=by
      obtain⟨_,c0,_⟩:=hfe 0 (by omega);obtain⟨b,off,sp⟩:=a;cases sp with
      |none=>exact⟨b,off,rfl⟩
      |some s=>exfalso;revert c0;unfold Addr.add World.cell?;split<;>simp
     (have hadd:∀j,(⟨b,off,none⟩:Addr).add j=⟨b,off+j,none⟩:=fun j=>by unfold Addr.add;split<;>simp_all);refine⟨b,off,rfl,?_,fun i o hi=>?_⟩
     · obtain⟨_,c0,_⟩:=hfe 0 (by omega)
       rw[hadd]at c0;exact zAq c0
     · obtain⟨hil,rfl⟩:=hget i o hi
       obtain⟨q1,c0,c1⟩:=hfe i (by omega);rw[hadd]at c0 c1;exact⟨c0,by simpa[Nat.add_assoc]using c1⟩
   · intro x hx
     obtain⟨i,hi⟩:=List.mem_iff_getElem?.1 hx;obtain⟨hil,rfl⟩:=hget i x hi;exact(hfe i (by omega)).1
   · simp only[Prod.mk.injEq]at hx
     obtain⟨rfl,_⟩:=hx;simp[big]
end
