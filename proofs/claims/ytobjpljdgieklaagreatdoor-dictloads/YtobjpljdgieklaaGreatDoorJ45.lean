import Derived.Test.YtobjpljdgieklaaGreatDoorJ44
import Derived.Test.YtobjpljdgieklaaGreatDoorJ20
import Derived.Maps.OwnIn
import Derived.Test.YtobjpljdgieklaaGreatDoorJ11
set_option maxRecDepth 100000
set_option maxHeartbeats 8000000
namespace Go.Proofs.YtobjpljdgieklaaGreatDoor
section
open Go.RowKit Nums Fm Pm
namespace Di
section
variable {κ:Type} [DecidableEq κ] {less:κ→κ→Bool}
theorem zKj(o:STO less)(p:κ×Int):∀l:List (κ×Int),SUp less l→(putP less p false l).length+(if (Pm.find l p.1).isSome then 1 else 0)=l.length+1
 |[],_=>rfl
 |x::r,h=>by
  obtain⟨h1,h2⟩:=List.pairwise_cons.1 h;have ih:=zKj o p r h2;cases e:less x.1 p.1 with
  |true=>
   have hne:=o.ne e;(have he:putP less p false (x::r)=x::putP less p false r:=by rw[putP];simp[e,hne]);rw[he,find_cons,if_neg hne,Option.or_none,List.length_cons,List.length_cons];omega
  |false=>
   by_cases hx:x.1=p.1
   · have hd:=zD3 o p r h2 fun y hy=>by rw[←hx];exact h1 y hy
     (have he:putP less p false (x::r)=p::r:=by rw[putP,if_neg (show ¬x.1≠p.1 from fun h=>h hx),e];simp[hd]);(have hf:Pm.find (x::r) p.1=some x.2:=by rw[←hx];exact SUp.find_of_mem o h (List.mem_cons_self ..));rw[he,hf];simp
   · have hpx:less p.1 x.1=true:=by
      cases e2:less p.1 x.1 with
      |true=>rfl
      |false=>exact absurd (o.tot _ _ e e2) hx
     (have hd:=zD3 o p r h2 fun y hy=>o.tr _ _ _ hpx (h1 y hy));(have he:putP less p false (x::r)=p::x::r:=by rw[putP];simp[e,hx,hd]);have hf:Pm.find (x::r) p.1=none:=zAx fun z hz=>by
      rcases List.mem_cons.1 hz with rfl|hm
      · exact(o.ne hpx).symm
      · exact(o.ne (o.tr _ _ _ hpx (h1 z hm))).symm
     rw[he,hf];simp
def out(k:κ)(l:List (κ×Int)):List (κ×Int):=l.filter fun x=>decide (x.1≠k)
theorem out_up{l:List (κ×Int)}(h:SUp less l)(k:κ):SUp less (out k l):=List.Pairwise.filter _ h
theorem zQg(k k':κ):∀l:List (κ×Int),Pm.find (out k l) k'=if k=k' then none else Pm.find l k'
 |[]=>by rw[show out k ([]:List (κ×Int))=[]from rfl,zEq];split<;>rfl
 |x::r=>by
  have ih:=zQg k k' r;by_cases hx:x.1=k
  · have e:out k (x::r)=out k r:=by simp[out,hx]
    rw[e,ih,find_cons];by_cases hk:k=k'
    · simp[hk]
    · have:¬x.1=k':=by rw[hx];exact hk
      simp[hk,this]
  · have e:out k (x::r)=x::out k r:=by simp[out,hx]
    rw[e,find_cons,ih,find_cons];by_cases hk:k=k'
    · have:¬x.1=k':=by rw[←hk];exact hx
      simp[hk,this]
    · simp[hk]
theorem zUn(o:STO less)(k:κ):∀l:List (κ×Int),SUp less l→(out k l).length+(if (Pm.find l k).isSome then 1 else 0)=l.length
 |[],_=>rfl
 |x::r,h=>by
  obtain⟨h1,h2⟩:=List.pairwise_cons.1 h;have ih:=zUn o k r h2;by_cases hx:x.1=k
  · have e:out k (x::r)=out k r:=by simp[out,hx]
    (have hn:Pm.find r k=none:=zAx fun z hz=>by rw[←hx];exact(o.ne (h1 z hz)).symm);(have hf:Pm.find (x::r) k=some x.2:=by rw[←hx];exact SUp.find_of_mem o h (List.mem_cons_self ..));rw[hn]at ih;rw[e,hf,List.length_cons];simpa using ih
  · have e:out k (x::r)=x::out k r:=by simp[out,hx]
    rw[e,find_cons,if_neg hx,Option.or_none,List.length_cons,List.length_cons];omega
def Nz(l:List (κ×Int)):Prop:=∀x∈l,x.2≠0
theorem Nz.find{l:List (κ×Int)}(h:Nz l){k:κ}{v:Int}(hf:Pm.find l k=some v):v≠0:=h (k,v) (find_mem hf)
theorem zKt(a b:List (κ×Int)):Nz (zAm less a b):=fun x hx=>by
 have:=(List.mem_filter.1 hx).2;simpa using this
theorem zMm(o:STO less){m:List (κ×Int)}(h:SUp less m)(hz:Nz m)(p:κ×Int):zAm less m [p]=if p.2=0 then out p.1 m else put less m p:=by
 by_cases h0:p.2=0
 · rw[if_pos h0]
   (refine SUp.ext o (zBq o _ _) (out_up h _) fun k=>?_);rw[zA1 o,zFv,zQg];by_cases hk:p.1=k
   · simp[hk,h0,Option.filter]
   · rw[if_neg hk,if_neg hk,Option.none_or]
     cases hf:Pm.find m k with
     |none=>rfl
     |some v=>have:=hz.find hf;simp[Option.filter,this]
 · rw[if_neg h0]
   obtain⟨i1,_,i3⟩:=zKi o p m h;(refine SUp.ext o (zBq o _ _) i1 fun k=>?_);rw[zA1 o,zFv,put,i3];by_cases hk:p.1=k
   · simp[hk,h0,Option.filter]
   · rw[if_neg hk,if_neg hk,Option.none_or]
     cases hf:Pm.find m k with
     |none=>rfl
     |some v=>have:=hz.find hf;simp[Option.filter,this]
theorem zKs(o:STO less){m:List (κ×Int)}(h:SUp less m)(hz:Nz m)(p:κ×Int):(zAm less m [p]).length+(if (Pm.find m p.1).isSome then 1 else 0)=m.length+(if p.2=0 then 0 else 1):=by
 rw[zMm o h hz];by_cases h0:p.2=0
 · rw[if_pos h0,if_pos h0];exact zUn o p.1 m h
 · rw[if_neg h0,if_neg h0];exact zKj o p m h
theorem zSe(o:STO less)(a b:List (κ×Int)):zAm less a (norm less b)=zAm less a b:=
 SUp.ext o (zBq o _ _) (zBq o _ _) fun k=>by rw[zA1 o,zA1 o,zCq o]
theorem zJe(o:STO less){a:List (κ×Int)}(h:SUp less a)(hz:Nz a):zAm less a []=a:=
 SUp.ext o (zBq o _ _) h fun k=>by
  rw[zA1 o,zEq,Option.none_or];cases hf:Pm.find a k with
  |none=>rfl
  |some v=>have:=hz.find hf;simp[Option.filter,this]
theorem put_same(o:STO less){m:List (κ×Int)}(h:SUp less m){p:κ×Int}(hf:Pm.find m p.1=some p.2):put less m p=m:=by
 obtain⟨i1,_,i3⟩:=zKi o p m h;refine SUp.ext o i1 h fun k=>?_
 rw[put,i3];by_cases hk:p.1=k
 · rw[if_pos hk,←hk,hf]
 · rw[if_neg hk]
theorem zIv(o:STO less){l:List (κ×Int)}(h:SUp less l){j:Nat}{p:κ×Int}(hj:l[j]?=some p):Pm.find (l.take j) p.1=none:=by
 refine zAx fun z hz=>?_
 obtain⟨i,hi,rfl⟩:=List.getElem_of_mem hz;rw[List.length_take]at hi;obtain⟨hjl,rfl⟩:=List.getElem?_eq_some_iff.1 hj;rw[List.getElem_take];exact o.ne (List.pairwise_iff_getElem.1 h i j (by omega) hjl (by omega))
theorem len_step(o:STO less){base over:List (κ×Int)}(hu:SUp less over){j:Nat}{p:κ×Int}(hj:over[j]?=some p)(hz:Nz base):
 (zAm less base (over.take (j+1))).length+(if (Pm.find base p.1).isSome then 1 else 0)=(zAm less base (over.take j)).length+(if p.2=0 then 0 else 1):=by
 obtain⟨hjl,e⟩:=List.getElem?_eq_some_iff.1 hj;have h1:over.take (j+1)=over.take j++[p]:=by rw[List.take_succ_eq_append_getElem hjl,e]
 rw[h1,←zHy o];have h2:=zKs o (zBq o base (over.take j)) (zKt base (over.take j)) p;have h3:Pm.find (zAm less base (over.take j)) p.1=Pm.find base p.1:=by
  rw[zA1 o,zIv o hu hj,Option.none_or];cases hf:Pm.find base p.1 with
  |none=>rfl
  |some v=>have:=hz.find hf;simp[Option.filter,this]
 rw[h3]at h2;exact h2
end
theorem zQ5:∀(l:List Pr) (p:Option Pr),(∀x∈l,zAq x.1.data.toList=true∧1≤x.2∧x.2≤1048576)→SUp zAa l→(∀q,p=some q→∀x∈l,zAa q.1 x.1=true)→zA7 p l=0
 |[],_,_,_,_=>rfl
 |x::r,p,h1,h2,h3=>by
  obtain⟨g1,g2,g3⟩:=h1 x (List.mem_cons_self ..);obtain⟨k1,k2⟩:=List.pairwise_cons.1 h2;have hp:zHr p x=true:=by
   cases p with
   |none=>rfl
   |some q=>exact h3 q rfl x (List.mem_cons_self ..)
  have e:oneF p x=0:=by
   unfold oneF;rw[if_neg (by rw[g1];decide),if_neg (by omega),if_neg (by rw[hp];decide)]
  rw[zA7,if_pos e];exact zQ5 r (some x) (fun y hy=>h1 y (List.mem_cons_of_mem _ hy)) k2 (fun q hq y hy=>by cases hq;exact k1 y hy)
theorem built_of{l:List Pr}(h1:∀x∈l,zAq x.1.data.toList=true∧1≤x.2∧x.2≤1048576)(h2:SUp zAa l)(h3:l.length≤4096):zAl l=0:=by
 unfold zAl;rw[if_neg (by omega)];exact zQ5 l none h1 h2 (fun q hq=>by cases hq)
theorem zF1{l:List Pr}(h:zAl l=0):SUp zAa l:=(zAt h).2.1
theorem zHf{l:List Pr}(h:zAl l=0):Nz l:=fun x hx=>by have:=((zAt h).1 x hx).2.1;omega
structure Dok(base over:List Pr):Prop where
 ok:zAl base=0
 up:SUp zAa over
 wd:∀x∈over,zAq x.1.data.toList=true∧0≤x.2∧x.2≤1048576
 few:over.length≤33
 len:(zAm zAa base over).length≤4096
theorem Dok.all{base over:List Pr}(h:Dok base over):zAl (zAm zAa base over)=0:=by
 refine built_of (fun x hx=>?_) (zBq lessB_sto _ _) h.len;have hn:=zKt base over x hx;have hf:=SUp.find_of_mem lessB_sto (zBq lessB_sto base over) hx;rw[zA1 lessB_sto]at hf;cases ho:Pm.find over x.1 with
 |some v=>
  rw[ho,Option.some_or]at hf;have e:v=x.2:=by
   by_cases h0:v=0
   · simp[h0,Option.filter]at hf
   · simp[h0,Option.filter]at hf;exact hf
  obtain⟨g1,g2,g3⟩:=h.wd _ (find_mem ho);simp only at g1 g2 g3;exact⟨g1,by omega,by omega⟩
 |none=>
  rw[ho,Option.none_or]at hf;cases hb:Pm.find base x.1 with
  |none=>rw[hb]at hf;cases hf
  |some v=>
   rw[hb]at hf;have e:v=x.2:=by
    by_cases h0:v=0
    · simp[h0,Option.filter]at hf
    · simp[h0,Option.filter]at hf;exact hf
   obtain⟨g1,g2,g3⟩:=(zAt h.ok).1 _ (find_mem hb);simp only at g1 g2 g3;exact⟨g1,by omega,by omega⟩
theorem Dok.start{l:List Pr}(h:zAl l=0):Dok l []∧zAm zAa l []=l:=by
 have e:=zJe lessB_sto (zF1 h) (zHf h);exact⟨⟨h,List.Pairwise.nil,fun x hx=>(by cases hx),(by simp),(by rw[e];exact(zAt h).2.2)⟩,e⟩
theorem Dok.find{base over:List Pr}(h:Dok base over)(s:ByteArray):Pm.find (zAm zAa base over) s=match Pm.find over s with|some v=>if v=0 then none else some v|none=>Pm.find base s:=by
 rw[zA1 lessB_sto];cases ho:Pm.find over s with
 |some v=>by_cases h0:v=0<;>simp[h0,Option.filter]
 |none=>
  rw[Option.none_or];cases hb:Pm.find base s with
  |none=>rfl
  |some v=>have:=(zHf h.ok).find hb;simp[Option.filter,this]
theorem Dok.change(base over:List Pr)(p:Pr):zAm zAa base (norm zAa (over++[p]))=if p.2=0 then out p.1 (zAm zAa base over)else put zAa (zAm zAa base over) p:=by
 rw[zSe lessB_sto,←zHy lessB_sto,zMm lessB_sto (zBq lessB_sto _ _) (zKt _ _)]
theorem Dok.next{base over:List Pr}(h:Dok base over){p:Pr}(hw:zAq p.1.data.toList=true)(h0:0≤p.2)(h1:p.2≤1048576)(hl:(zAm zAa base (norm zAa (over++[p]))).length≤4096)(hf:(norm zAa (over++[p])).length≤33):Dok base (norm zAa (over++[p])):=by
 refine⟨h.ok,zD6 lessB_sto _,fun x hx=>?_,hf,hl⟩;have hfd:=SUp.find_of_mem lessB_sto (zD6 lessB_sto (over++[p])) hx;rw[zCq lessB_sto]at hfd;have hm:=find_mem hfd;rcases List.mem_append.1 hm with hm|hm
 · exact h.wd _ hm
 · have e:=List.mem_singleton.1 hm
   have e1:x.1=p.1:=congrArg Prod.fst e;have e2:x.2=p.2:=congrArg Prod.snd e;rw[e1,e2];exact⟨hw,h0,h1⟩
theorem Dok.sm{base over:List Pr}(h:Dok base over):Sm over∧Sm base:=⟨fun x hx=>by
 obtain⟨_,_,_,_,hs96,_⟩:=zA4 (x:=x) (h.wd x hx).1;omega,fun x hx=>by
 obtain⟨_,_,_,_,hs96,_⟩:=zA4 (x:=x) ((zAt h.ok).1 x hx).1;omega⟩
end Di
end
section
open Go.RowKit Go.Shelf Nums Fm Pk
attribute [local go_sem] Oper.semAt_some
namespace Di
structure CoI(w:World)(lb:Nat)(A:Nat→Prop)(pre:List Pr)(W:World):Prop where
 bel:Below w.heap.size w W
 lo:w.heap.size≤lb
 loA:∀k,A k→w.heap.size≤k
 ex:∃v,W.heap[lb]?=some (.cells #[v] 22)∧POwn w.heap.size W v pre∧v.ownBlock≠some lb∧∀k,k=lb∨v.ownBlock=some k→A k
theorem zDb{B:Nat}{w w':World}{v:Value}{l:List Pr}(h:POwn B w v l)(hs:∀g,v.ownBlock=some g→w'.heap[g]?=w.heap[g]?):POwn B w' v l:=by
 obtain⟨hl,hn|⟨g,cap,cur,rfl,h1,hg,h2⟩⟩:=h
 · exact⟨hl,.inl hn⟩
 · exact⟨hl,.inr ⟨g,cap,cur,rfl,h1,(hs g rfl).trans hg,h2⟩⟩
theorem zA5{B:Nat}{w:World}{v:Value}{l:List Pr}(h:POwn B w v l){g:Nat}(hg:v.ownBlock=some g):B≤g∧g<w.heap.size:=by
 obtain⟨hl,⟨rfl,_⟩|⟨g',cap,cur,rfl,h1,hh,h2⟩⟩:=h
 · cases hg
 · cases hg;exact⟨h1,(Array.getElem?_eq_some_iff.1 hh).1⟩
theorem CoI.minds{w:World}{lb B:Nat}(hl:lb<B):zF5 B (CoI w lb):=by
 rintro A pre W W' ⟨h1,h2,h3,v,h4,h5,h6,h7⟩ hu;have hA:∀k,k<W.heap.size→A k→¬(¬A k∧B≤k):=fun k _ ha hn=>hn.1 ha
 exact⟨h1.trans (hu.below h1.size fun k hk=>by omega),h2,h3,v,(hu.block lb (Array.getElem?_eq_some_iff.1 h4).1 (fun hn=>by omega)).trans h4,zDb h5 fun g hg=>hu.block g (zA5 h5 hg).2 (hA g (zA5 h5 hg).2 (h7 g (.inr hg))),h6,h7⟩
theorem zS5{F:Fence}{n:Nat}{W:World}{ops:Array Oper}{rest:List Oper}{o:Oper}{a:Act}{Q:Exit→Act→World→Prop}(hgd:o.guard=none)(s y:Operand)(x:Pr)(T:TypeId)
 (ho:o.op = .call { callee := .builtin .append,args:=#[s,y],argTypes:=#[22,22] }) (B nb c:Nat) (v:Value) (l:List Pr) (hs:a.eval s=v) (hown:POwn B W v l) (hy:a.eval y = .slice (some ⟨nb,0,none⟩) 1 c) (hnb:nb=W.heap.size) (h63:l.length<2199023255552) (hB:B≤W.heap.size)
 (h:∀v' w',POwn B w' v' (l++[x])→(W.alloc (.cells #[.string x.1,.int .i64 x.2] T)).grownBy w' v.ownBlock→(v'.ownBlock=v.ownBlock∨v'.ownBlock=some (W.heap.size+1))→wpListIn F n Tryz.prog ops Q rest (a.put o.dst v') w'):wpListIn F n Tryz.prog ops Q (o::rest) a (W.alloc (.cells #[.string x.1,.int .i64 x.2] T)):=by
 subst hnb;obtain⟨i0,hi,hz0,hz1,hz2⟩:=info_parts zVz;have hbA:Below W.heap.size W (W.alloc (.cells #[.string x.1,.int .i64 x.2] T)):=(Below.refl _ W).alloc (Nat.le_refl _) _;have ho2:POwn B (W.alloc (.cells #[.string x.1,.int .i64 x.2] T)) v l:=hown.below hbA;refine wpListIn_append_own_at _ hgd s y 22 ho B 64 i0 _ 2 24 Tryz.underlying22 hi hz0 hz1 hz2 rfl (by decide) v l.length (zB4 l) hs ho2 ⟨W.heap.size,0,none⟩ 1 c [.string x.1,.int .i64 x.2] hy rfl ?_ ?_ (by simp only[maxLen];omega) (by omega) (by simp;omega) ?_
 · intro j u hj
   match j,hj with
   |0,hj=>simp at hj;subst hj;simp[Addr.add]
   |1,hj=>simp at hj;subst hj;simp[Addr.add]
   |k+2,hj=>simp at hj
 · intro u hu
   simp at hu;rcases hu with rfl|rfl<;>rfl
 · intro v' w' h1 h2 _ h4
   refine h v' w' ?_ h2 (h4.imp id (fun e=>by rw[e];simp));unfold POwn;rw[List.length_append,List.length_singleton,zO5];exact h1
theorem zLf(w:World)(c0 c1:Value)(S:(Nat→Prop)→World→Prop)(L:List Pr)(hL:L.length≤1048576)(hseq:SeqIs S 138 #[c0,c1] L)(hS:∀W A,Below w.heap.size w W→(∀k,A k→w.heap.size≤k)→S A W):
 Calls Tryz.prog 98 #[.slice none 0 0,.func (.func 138) #[] #[c0,c1]] w fun e w'=>∃v,e = .returned v∧POwn w.heap.size w' v L∧Below w.heap.size w w':=by
 obtain⟨lb,hlb⟩:∃lb,lb=w.heap.size:=⟨_,rfl⟩;obtain⟨W0,hW0⟩:∃W0,W0=w.alloc (.cells #[.slice none 0 0] 22):=⟨_,rfl⟩;have hb0:Below w.heap.size w W0:=by rw[hW0];exact(Below.refl _ w).alloc (Nat.le_refl _) _
 have hs0:W0.heap.size=w.heap.size+1:=by rw[hW0];simp
 have hl0:W0.heap[lb]?=some (.cells #[.slice none 0 0] 22):=by rw[hW0,hlb];exact zAb _ _
 have hI0:CoI w lb (fun j=>j=lb) [] W0:=⟨hb0,by omega,fun k e=>by omega,_,hl0,POwn.nil _ _,fun e=>(by cases e),fun k e=>(by rcases e with e|e;exact e;cases e)⟩;refine(callsIn_wide (n:=0)).1 (callsIn_of_wp_marks Tryz.func98 rfl trivial ?_ rfl);refine wpIn_wide.2 ?_;simp only[Tryz.ntmps98,List.size_toArray,List.length_cons,List.length_nil,Nat.reduceAdd,Nat.reduceSub,Array.replicate_succ,Array.replicate_zero,List.push_toArray,List.append_toArray,List.nil_append,List.cons_append];go_upto_region 1 with fail
 rw[←hlb,←hW0];clear hW0;go_wp2;refine zTe (gf:=138) (lb:=#[c0,c1]) rfl (enters_of Tryz.func138 (by kernel_rfl) rfl) hseq rfl (CoI w lb) (fun _ _ _ _=>False) (fun j=>j=lb) ?_ ?_ (CoI.minds (by omega)) (fun _ _ _ _ _ h _=>h) hI0 ?_ ?_ ?_
 · intro j hj;omega
 · intro W hb
   exact hS W _ (hb0.trans (hb.mono hb0.size)) (fun j hj=>by omega)
 · rintro n lp A pre x W hpx ⟨h1,h2,h3,v,h4,h5,h6,h7⟩ hl hnl hlt
   obtain⟨x1,x2⟩:=x;simp only[zSa];(have hplen:pre.length<1048576:=by have:=hpx.length_le;rw[List.length_append,List.length_singleton]at this;omega);obtain⟨vd,vc,hvv⟩:=h5.shape;subst hvv;have HS0:Hid (W0.heap.size=w.heap.size+1∧lb=w.heap.size):=⟨hs0,hlb⟩;clear hpx hL hseq hS hs0 hlb
   gi_wp2
   refine⟨Upd.of_below ((Below.refl _ W).alloc (Nat.le_refl _) _),fun W2 hu2=>?_⟩;obtain⟨hz1,hz2⟩:=HS0.out;have hua:Upd (fun j=>j=W0.heap.size+1) W W2:=(Upd.of_below (F:=fun j=>j=W0.heap.size+1) ((Below.refl _ W).alloc (Nat.le_refl _) _)).trans hu2 (fun _ _ g=>g);(have hl2:Lies A W2:=fun j hj=>Nat.lt_of_lt_of_le (hl j hj) hua.size);have hI2:CoI w lb A pre W2:=CoI.minds (B:=W0.heap.size) (by omega) A pre W W2 ⟨h1,h2,h3,_,h4,h5,h6,h7⟩ (hua.mono fun k e=>⟨by rw[e];exact hnl,by omega⟩);have hlbW:=(Array.getElem?_eq_some_iff.1 h4).1;have hl4:W2.heap[lb]?=some (.cells #[.slice vd pre.length vc] 22):=(hua.block lb hlbW (fun e=>by omega)).trans h4;(have ho2:POwn w.heap.size W2 (.slice vd pre.length vc) pre:=zDb h5 fun g hg=>hua.block g (zA5 h5 hg).2 (fun e=>hnl (e▸h7 g (.inr hg))));have hp2:W2.heap[W.heap.size]?=some (.cells #[.string x1,.int .i64 x2] 64):=(hu2.block W.heap.size (by simp) (fun e=>by omega)).trans (zAb _ _);obtain⟨pb,hpb⟩:∃pb,pb=W.heap.size:=⟨_,rfl⟩;rw[←hpb]at hp2 ⊢;(have p0:W2.cell? ⟨pb,0,none⟩=some (.string x1):=by simp[World.cell?,hp2]);(have p1:W2.cell? ⟨pb,1,none⟩=some (.int .i64 x2):=by simp[World.cell?,hp2]);(have l0:W2.cell? ⟨lb,0,none⟩=some (.slice vd pre.length vc):=by simp[World.cell?,hl4]);have HO2:Hid (POwn w.heap.size W2 (.slice vd pre.length vc) pre):=ho2;have HEND:Hid (∀(v7:Value) (w7:World) (T:TypeId),POwn w.heap.size w7 v7 (pre++[(x1,x2)])→(W2.alloc (.cells #[.string x1,.int .i64 x2] T)).grownBy w7 (Value.slice vd pre.length vc).ownBlock→(v7.ownBlock=(Value.slice vd pre.length vc).ownBlock∨v7.ownBlock=some (W2.heap.size+1))→w7.cell? ⟨lb,0,none⟩=some (.slice vd pre.length vc)∧w7.frozen? ⟨lb,0,none⟩=false∧∃A',Ext A A' W2∧Lies A' (w7.setCell ⟨lb,0,none⟩ v7)∧Upd A W2 (w7.setCell ⟨lb,0,none⟩ v7)∧CoI w lb A' (pre++[(x1,x2)]) (w7.setCell ⟨lb,0,none⟩ v7)):=fun v7 w7 T ho7 hg7 hn7=>by
    have hbo:Below W2.heap.size W2 (W2.alloc (.cells #[.string x1,.int .i64 x2] T)):=(Below.refl _ W2).alloc (Nat.le_refl _) _;(have hsa:(W2.alloc (.cells #[.string x1,.int .i64 x2] T)).heap.size=W2.heap.size+1:=by simp);have hs2:w.heap.size≤W2.heap.size:=Nat.le_trans h1.size hua.size;have hu7:Upd A W2 w7:=(Upd.of_below hbo).trans (G:=A) ⟨hg7.os,hg7.tape,hg7.output,hg7.size,fun k hk hn=>hg7.block k hk (fun e=>hn (h7 k (.inr e.symm)))⟩ (fun _ _ g=>g);have hlb2:lb<W2.heap.size:=Nat.lt_of_lt_of_le hlbW hua.size;have hb7:w7.heap[lb]?=some (.cells #[.slice vd pre.length vc] 22):=(hg7.block lb (by omega) (fun e=>h6 e.symm)).trans ((hbo.block lb hlb2).trans hl4);have hus:Upd (fun j=>j=lb) w7 (w7.setCell ⟨lb,0,none⟩ v7):=zBp w7 lb 0 v7;have hlb7:v7.ownBlock≠some lb:=fun e=>by
     rcases hn7 with e2|e2
     · exact h6 (e2▸e)
     · rw[e2]at e;cases e;omega
    have hu:Upd A W2 (w7.setCell ⟨lb,0,none⟩ v7):=hu7.trans hus (fun k _ e=>h7 k (.inl e));have hA2:∀k,v7.ownBlock=some k→A k∨W2.heap.size≤k:=fun k e=>by
     rcases hn7 with e2|e2
     · exact .inl (h7 k (.inr (e2▸e)))
     · rw[e2]at e;cases e;exact .inr (by omega)
    refine⟨by simp[World.cell?,hb7],by simp[World.frozen?,hb7],fun k=>A k∨v7.ownBlock=some k,⟨fun k hk => .inl hk,fun k hk=>hk.elim .inl (hA2 k)⟩,fun k hk=>?_,hu,hI2.bel.trans (hu.below hI2.bel.size h3),h2,fun k hk=>?_,v7,by rw[zAu hb7];rfl,zDb ho7 fun g hg=>hus.block g (zA5 ho7 hg).2 (fun e=>hlb7 (e▸hg)),hlb7,fun k hk=>?_⟩
    · rcases hk with e|e
      · exact Nat.lt_of_lt_of_le (hl2 k e) hu.size
      · exact Nat.lt_of_lt_of_le (zA5 ho7 e).2 hus.size
    · rcases hk with e|e
      · exact h3 k e
      · exact(zA5 ho7 e).1
    · rcases hk with e|e
      · exact .inl (h7 k (.inl e))
      · exact .inr e
   have HB2:Hid (w.heap.size≤W2.heap.size):=Nat.le_trans h1.size hua.size;have HUA:Hid (Upd (fun j=>j=W0.heap.size+1) W W2):=hua;clear h1 h2 h3 h4 h5 h6 h7 hl hnl hlt hu2 hua hl2 hI2 hl4 ho2 hp2 hpb hz1 hz2 hlbW
   gi_wp2_with (gi_at_builtin;refine zS5 rfl _ _ (x1,x2) _ rfl w.heap.size _ _ _ pre rfl HO2.out rfl rfl (by omega) HB2.out ?_;intro v7 w7 ho7 hg7 hn7;obtain⟨m0,mf,HE7⟩:=HEND.out v7 w7 _ ho7 hg7 hn7;obtain⟨ad7,n7,cap7,hv7⟩:∃a n c,v7=Value.slice a n c:=(by obtain⟨a,c,e⟩:=ho7.shape;exact⟨_,_,_,e⟩);subst hv7;have HEE:Hid _:=HE7;clear HE7 ho7 hg7 hn7)
   exact HEE.out
 · rintro A' W hl ⟨h1,h2,h3,v,h4,h5,h6,h7⟩ hD
   obtain⟨vd,vc,hvv⟩:=h5.shape;subst hvv;(have l0:W.cell? ⟨lb,0,none⟩=some (.slice vd L.length vc):=by simp[World.cell?,h4]);have HO:Hid (POwn w.heap.size W (.slice vd L.length vc) L):=h5;have HB:Hid (Below w.heap.size w W):=h1;have HD:Hid (W.heap[W0.heap.size]?=some (.deferred (some []))):=hD;have HZ:Hid (w.heap.size≤W0.heap.size∧∀k,(Value.slice vd L.length vc).ownBlock=some k→k≠W0.heap.size):=⟨by omega,fun k hk e=>by
    obtain⟨_,⟨e2,_⟩|⟨g,cap,cur,e2,_,hh,_⟩⟩:=h5
    · rw[e2]at hk;cases hk
    · rw[e2]at hk;cases hk
      have e':g=W0.heap.size:=e;rw[e',hD]at hh;cases hh⟩
   generalize W0.heap.size=db at *;clear h1 h2 h3 h4 h5 h6 h7 hD hl hs0 hL hseq hS hI0 hl0 hlb;go_wp2;have hu:=Upd.put (W:=W) db (.deferred none);have hfin:POwn w.heap.size (W.putObj db (.deferred none)) (.slice vd L.length vc) L∧Below w.heap.size w (W.putObj db (.deferred none)):=⟨zDb HO.out fun g hg=>hu.block g (zA5 HO.out hg).2 (HZ.out.2 g hg),HB.out.trans (hu.below HB.out.size fun k e=>by rw[e];exact HZ.out.1)⟩;exact⟨by simp,.inl ⟨_,_,rfl,run_takeDeferred HD.out,_,results_tmp rfl _ _ _,.slice vd L.length vc,rfl,hfin.1,hfin.2⟩⟩
 · rintro c A' q W hq hl' h hD
   exact h.elim
theorem zO1(w:World)(c0 c1:Value)(S:(Nat→Prop)→World→Prop)(L:List Pr)(hL:L.length≤1048576)(hseq:SeqIs S 138 #[c0,c1] L)(hS:∀W A,Below w.heap.size w W→(∀k,A k→w.heap.size≤k)→S A W):
 Calls Tryz.prog 60 #[.func (.func 138) #[] #[c0,c1]] w fun e w'=>∃v,e = .returned v∧POwn w.heap.size w' v L∧Below w.heap.size w w':=by
 have HA:=zLf w c0 c1 S L hL hseq hS;have HA:Hid (Calls Tryz.prog 98 #[.slice none 0 0,.func (.func 138) #[] #[c0,c1]] w fun e w'=>∃v,e = .returned v∧POwn w.heap.size w' v L∧Below w.heap.size w w'):=HA;clear hseq hS;go_enter Tryz.func60,Tryz.ntmps60;go_wp2_with (go_at_call 98;refine HA.out.mono ?_;rintro e w1 ⟨v1,rfl,ho1,hb1⟩;have HO1:Hid (POwn w.heap.size w1 v1 L∧Below w.heap.size w w1):=⟨ho1,hb1⟩;clear ho1 hb1);go_ret;exact⟨_,rfl,HO1.out.1,HO1.out.2⟩
def zLn(fv:Value)(w1:World)(L:List Pr):Prop:=∀W,Below w1.heap.size w1 W→Calls Tryz.prog 60 #[fv] W fun e w'=>∃v,e = .returned v∧POwn W.heap.size w' v L∧Below W.heap.size W w'
theorem WAll_any(w:World)(wb:Nat)(l:List Pr)(h:WkOn w wb l):
 Calls Tryz.prog 61 #[.pointer (some ⟨wb,0,none⟩)] w fun e w'=>∃c0 c1,e = .returned (.func (.func 138) #[] #[.pointer (some ⟨c0,0,none⟩),.pointer (some ⟨c1,0,none⟩)])∧Below w.heap.size w w'∧zLn (.func (.func 138) #[] #[.pointer (some ⟨c0,0,none⟩),.pointer (some ⟨c1,0,none⟩)]) w' l:=by
 have HFR:Hid (Calls Tryz.prog 99 #[.pointer (some ⟨wb,0,none⟩),.int .i64 0] w fun e w'=>∃c0 c1,e = .returned (.func (.func 138) #[] #[.pointer (some ⟨c0,0,none⟩),.pointer (some ⟨c1,0,none⟩)])∧Below w.heap.size w w'∧zLn (.func (.func 138) #[] #[.pointer (some ⟨c0,0,none⟩),.pointer (some ⟨c1,0,none⟩)]) w' l):=by
  refine(from_any wb 0 w).mono ?_;rintro e w' ⟨rfl,t1,t2,hw'⟩;have hb:Below w.heap.size w w':=by rw[hw'];exact((Below.refl _ w).alloc (Nat.le_refl _) _).alloc (by simp) _
  have hcw:w'.cell? ⟨w.heap.size,0,none⟩=some (.pointer (some ⟨wb,0,none⟩)):=by rw[hw'];simp
  have hci:w'.cell? ⟨w.heap.size+1,0,none⟩=some (.int .i64 ((0:Nat):Int)):=by rw[hw'];simp
  have hsz:w'.heap.size=w.heap.size+2:=by rw[hw'];simp
  refine⟨_,_,rfl,hb,fun W hW=>?_⟩;have hbW:Below w.heap.size w W:=hb.trans (hW.mono hb.size);have hl:=(zAt h.ok).2.2;have:=zO1 W _ _ _ _ (by rw[List.drop_zero];omega) (from_seq w wb l h w.heap.size (w.heap.size+1) 0 (by omega)) (fun W' A hW' hA=>⟨hbW.trans (hW'.mono hbW.size),fun j hj=>Nat.le_trans hbW.size (hA j hj),(hW'.cell (p:=⟨w.heap.size,0,none⟩) (by show w.heap.size<_;have:=hW.size;omega)).trans ((hW.cell (p:=⟨w.heap.size,0,none⟩) (by show w.heap.size<_;omega)).trans hcw),(hW'.cell (p:=⟨w.heap.size+1,0,none⟩) (by show w.heap.size+1<_;have:=hW.size;omega)).trans ((hW.cell (p:=⟨w.heap.size+1,0,none⟩) (by show w.heap.size+1<_;omega)).trans hci),fun ha=>by have h1:=hA _ ha;have h2:=hW.size;omega⟩);rw[List.drop_zero]at this;exact this
 clear h;go_enter Tryz.func61,Tryz.ntmps61;go_wp2_with (go_at_call 99;refine HFR.out.mono ?_;rintro e w1 ⟨c0,c1,rfl,hb1,hts⟩;have HTS:Hid _:=hts;clear hts);go_ret;exact⟨c0,c1,rfl,hb1,HTS.out⟩
end Di
end
section
open Go.RowKit Go.Shelf Go.Lib Nums Fm Pk Pm
namespace Di
def WkIn(w:World)(lo hi wb:Nat)(l:List Pr):Prop:=hi≤w.heap.size∧∀W,hi≤W.heap.size→(∀j,lo≤j→j<hi→W.heap[j]?=w.heap[j]?)→Tabs W→WkOn W wb l
theorem WkIn.keep{w w':World}{lo hi wb:Nat}{l:List Pr}(h:WkIn w lo hi wb l)(hs:w.heap.size≤w'.heap.size)(hk:∀j,lo≤j→j<hi→w'.heap[j]?=w.heap[j]?):WkIn w' lo hi wb l:=
 ⟨Nat.le_trans h.1 hs,fun W h1 h2 h3=>h.2 W h1 (fun j a b=>(h2 j a b).trans (hk j a b)) h3⟩
theorem WkIn.on{w:World}{lo hi wb:Nat}{l:List Pr}(h:WkIn w lo hi wb l)(ht:Tabs w):WkOn w wb l:=h.2 w h.1 (fun _ _ _=>rfl) ht
theorem WkIn.of_lo{w:World}{B wb:Nat}{l:List Pr}(h:zNr B w wb l):WkIn w B w.heap.size wb l:=⟨Nat.le_refl _,fun W h1 h2 h3=>h W h1 h2 h3⟩
def TabB(B:Nat)(w:World):Prop:=∀W,Below B w W→Tabs W
theorem TabB.now{B:Nat}{w:World}(h:TabB B w):Tabs w:=h w (Below.refl _ _)
theorem TabB.of{w:World}(h:Tabs w):TabB w.heap.size w:=fun _ hb=>h.below hb
theorem TabB.go{B:Nat}{w w':World}(h:TabB B w)(hb:Below B w w'):TabB B w':=fun W hW=>h W (hb.trans hW)
structure DictAt(B:Nat)(w:World)(db lo hi wb:Nat)(v:Value)(base over:List Pr):Prop where
 low:B≤db
 ok:Dok base over
 tabs:TabB B w
 blk:w.heap[db]?=some (.cells #[.pointer (some ⟨wb,0,none⟩),v] 81)
 wk:WkIn w lo hi wb base
 own:POwn B w v over
 nd:v.ownBlock≠some db
 nw:¬(lo≤db∧db<hi)
 nv:∀k,v.ownBlock=some k→¬(lo≤k∧k<hi)
 nz:over=[]→v = .slice none 0 0
def fpD(db:Nat)(v:Value)(k:Nat):Prop:=k=db∨v.ownBlock=some k
section
variable {B:Nat} {w w':World} {db lo hi wb:Nat} {v:Value} {base over:List Pr}
theorem DictAt.lt(h:DictAt B w db lo hi wb v base over):db<w.heap.size:=(Array.getElem?_eq_some_iff.1 h.blk).1
theorem DictAt.size(h:DictAt B w db lo hi wb v base over):B≤w.heap.size:=Nat.le_of_lt (Nat.lt_of_le_of_lt h.low h.lt)
theorem DictAt.keep{F:Nat→Prop}(h:DictAt B w db lo hi wb v base over)(hu:Upd F w w')(hF:∀k,F k→B≤k)(h1:¬F db)(h2:∀k,v.ownBlock=some k→¬F k)(h3:∀k,lo≤k→k<hi→¬F k):DictAt B w' db lo hi wb v base over:=
 ⟨h.low,h.ok,h.tabs.go (hu.below h.size hF),(hu.block db h.lt h1).trans h.blk,h.wk.keep hu.size (fun j a b=>hu.block j (Nat.lt_of_lt_of_le b h.wk.1) (h3 j a b)),zDb h.own fun g hg=>hu.block g (zA5 h.own hg).2 (h2 g hg),h.nd,h.nw,h.nv,h.nz⟩
theorem DictAt.below(h:DictAt B w db lo hi wb v base over)(hb:Below w.heap.size w w'):DictAt B w' db lo hi wb v base over:=
 h.keep (F:=fun _=>False) (Upd.of_below hb) (fun _=>False.elim) id (fun _ _=>id) (fun _ _ _=>id)
theorem DictAt.cells(h:DictAt B w db lo hi wb v base over):w.cell? ⟨db,0,none⟩=some (.pointer (some ⟨wb,0,none⟩))∧w.cell? ⟨db,1,none⟩=some v∧w.frozen? ⟨db,0,none⟩=false∧w.frozen? ⟨db,1,none⟩=false:=
 ⟨by simp[World.cell?,h.blk],by simp[World.cell?,h.blk],by simp[World.frozen?,h.blk],by simp[World.frozen?,h.blk]⟩
theorem DictAt.on(h:DictAt B w db lo hi wb v base over):WkOn w wb base:=h.wk.on h.tabs.now
theorem DictAt.row(h:DictAt B w db lo hi wb v base over):PRow w v over:=h.own.row
theorem DictAt.fp(h:DictAt B w db lo hi wb v base over):∀k,fpD db v k→B≤k∧k<w.heap.size:=fun k hk=>by
 rcases hk with rfl|hk
 · exact⟨h.low,h.lt⟩
 · exact zA5 h.own hk
end
structure MutSays(B:Nat)(w w':World)(db lo hi:Nat)(v:Value)(L:List Pr):Prop where
 ex:∃lo' hi' wb' v' base' over',DictAt B w' db lo' hi' wb' v' base' over'∧over'.length≤32∧zAm zAa base' over'=L∧(v'=v∨∀k,v'.ownBlock=some k→w.heap.size≤k)∧((lo'=lo∧hi'=hi)∨w.heap.size≤lo')
 upd:Upd (fpD db v) w w'
theorem MutSays.same{B:Nat}{w w':World}{db lo hi wb:Nat}{v:Value}{base over:List Pr}(h:DictAt B w db lo hi wb v base over)(hf:over.length≤32)(hb:Below w.heap.size w w'):MutSays B w w' db lo hi v (zAm zAa base over):=
 ⟨⟨lo,hi,wb,v,base,over,h.below hb,hf,rfl,.inl rfl,.inl ⟨rfl,rfl⟩⟩,Upd.of_below hb⟩
end Di
end
section
open Go.RowKit Go.Shelf Go.Lib Nums Fm Pk Pm
namespace Di
theorem zHn{B:Nat}{w:World}{vs:Value}{b:List St}(h:StRow B w vs b):∃ad n cap,vs = .slice ad n cap:=by
 obtain⟨ad,n,cap,e,_⟩:=StRow.form h;exact⟨ad,n,cap,e⟩
structure LoadSays(B:Nat)(w w':World)(l:List Pr)(db:Nat):Prop where
 ex:∃lo hi wb,DictAt B w' db lo hi wb (.slice none 0 0) l []∧w.heap.size≤lo
 lo:w.heap.size≤db
 bel:Below w.heap.size w w'
theorem load_end{B:Nat}{w w2 w3:World}{wb:Nat}{l:List Pr}(hB:B≤w.heap.size)(ht:TabB B w)(hC:zAl l=0)(h1:Below w.heap.size w w2)(h3:Below w2.heap.size w2 w3)(hlo:zNr w2.heap.size w3 wb l)(o:Obj)(ho:o = .cells #[.pointer (some ⟨wb,0,none⟩),.slice none 0 0] 81):
 LoadSays B w (w3.alloc o) l w3.heap.size:=by
 subst ho;have hb3:Below w.heap.size w w3:=h1.trans (h3.mono h1.size);have hb4:Below w3.heap.size w3 (w3.alloc (.cells #[.pointer (some ⟨wb,0,none⟩),.slice none 0 0] 81)):=(Below.refl _ w3).alloc (Nat.le_refl _) _;have hb:Below w.heap.size w (w3.alloc (.cells #[.pointer (some ⟨wb,0,none⟩),.slice none 0 0] 81)):=hb3.trans (hb4.mono hb3.size);have h23:=h3.size;refine⟨⟨w2.heap.size,w3.heap.size,wb,⟨Nat.le_trans hB hb3.size,(Dok.start hC).1,ht.go (hb.mono hB),zAb _ _,(WkIn.of_lo hlo).keep hb4.size (fun j _ hj=>hb4.block j hj),POwn.nil _ _,fun e=>(by cases e),by omega,fun k e=>(by cases e),fun _=>rfl⟩,h1.size⟩,hb3.size,hb⟩
theorem zLk(B:Nat)(w:World)(hB:B≤w.heap.size)(ht:TabB B w)(u:Value)(l:List Pr)(h:PRow w u l)(hs:Sm l)(hC:zAl l=0):
 Calls Tryz.prog 17 #[u] w fun e w'=>∃db,e = .returned (.tuple #[.pointer (some ⟨db,0,none⟩),.int .i64 0])∧LoadSays B w w' l db:=by
 obtain⟨ad,cap,rfl⟩:=h.form;have hl:=(zAt hC).2.2
 have HBD:Hid (Calls Tryz.prog 40 #[.slice ad l.length cap] w fun e w'=>∃base vd vn vc b,e = .returned (.tuple #[.agg #[.int .i64 base,.slice vd vn vc],.int .i64 0])∧BuildSays w w' l base (.slice vd vn vc) b):=(zNw w (.slice ad l.length cap) l h (by omega) hs ht.now).mono (by
  rintro e w' ⟨base,vs,b,rfl,hb⟩;obtain⟨vd,vn,vc,rfl⟩:=zHn hb.row;exact⟨base,vd,vn,vc,b,by rw[hC],hb⟩)
 have HT:Hid (TabB B w∧B≤w.heap.size):=⟨ht,hB⟩;have HC:Hid (zAl l=0):=hC;generalize l.length=n at *;clear h hs hC ht hB hl;go_enter Tryz.func17,Tryz.ntmps17;go_upto_region 4 with(go_at_call 40;refine HBD.out.mono ?_;rintro e w1 ⟨base,vd,vn,vc,b,rfl,hbs⟩;have HBS:Hid (BuildSays w w1 l base (.slice vd vn vc) b):=hbs;clear hbs)
 obtain⟨W2,hW2⟩:∃W2,W2=w1.alloc (.cells #[.int .i64 base,.slice vd vn vc] 39):=⟨_,rfl⟩;have hb2:Below w1.heap.size w1 W2:=by rw[hW2];exact(Below.refl _ w1).alloc (Nat.le_refl _) _
 have hn2:W2.heap[w1.heap.size]?=some (.cells #[.int .i64 base,.slice vd vn vc] 39):=by rw[hW2];exact zAb _ _
 rw[←hW2];obtain⟨mb,hmb⟩:∃mb,w1.heap.size=mb:=⟨_,rfl⟩;rw[hmb]at hn2 ⊢;have c0:W2.cell? ⟨mb,0,none⟩=some (.int .i64 base):=by simp[World.cell?,hn2]
 have c1:W2.cell? ⟨mb,1,none⟩=some (.slice vd vn vc):=by simp[World.cell?,hn2]
 have HW2:Hid (Below w.heap.size w W2):=HBS.out.bel.trans (hb2.mono HBS.out.bel.size);have HNW:Hid (Calls Tryz.prog 41 #[.agg #[.int .i64 base,.slice vd vn vc]] W2 fun e w'=>∃wb,e = .returned (.tuple #[.pointer (some ⟨wb,0,none⟩),.bool true])∧W2.heap.size≤wb∧zNr W2.heap.size w' wb l∧Below W2.heap.size W2 w'):=NewW_lo w.heap.size W2 l base _ b HC.out (HBS.out.row.below hb2) HBS.out.mach (HT.out.1.now.below HW2.out);clear hb2 hn2 hW2 hmb;go_wp2_with (go_at_call 41;refine HNW.out.mono ?_;rintro e w3 ⟨wb,rfl,_,hlo,hb3⟩;have H3:Hid (zNr W2.heap.size w3 wb l∧Below W2.heap.size W2 w3):=⟨hlo,hb3⟩;clear hlo hb3);go_ret2;exact⟨_,rfl,load_end HT.out.2 HT.out.1 HC.out HW2.out H3.out.2 H3.out.1 _ rfl⟩
theorem Load_no(w:World)(ht:Tabs w)(u:Value)(l:List Pr)(h:PRow w u l)(hs:Sm l)(hl:l.length≤9223372036854775807)(hC:zAl l≠0):
 Calls Tryz.prog 17 #[u] w fun e w'=>e = .returned (.tuple #[.pointer none,.int .i64 (zAl l)])∧Below w.heap.size w w':=by
 obtain⟨ad,cap,rfl⟩:=h.form;obtain⟨C,hCC⟩:∃C,zAl l=C:=⟨_,rfl⟩;rw[hCC]at hC ⊢
 have HBD:Hid (Calls Tryz.prog 40 #[.slice ad l.length cap] w fun e w'=>∃base vd vn vc,e = .returned (.tuple #[.agg #[.int .i64 base,.slice vd vn vc],.int .i64 C])∧Below w.heap.size w w'):=(zNw w (.slice ad l.length cap) l h hl hs ht).mono (by
  rintro e w' ⟨base,vs,b,rfl,hb⟩;obtain⟨vd,vn,vc,rfl⟩:=zHn hb.row;exact⟨base,vd,vn,vc,by rw[hCC],hb.bel⟩)
 have hC2:(C==0)=false:=by simpa using hC
 generalize l.length=n at *;clear h hs hCC ht hl;go_enter Tryz.func17,Tryz.ntmps17;go_wp2_with (go_at_call 40;refine HBD.out.mono ?_;rintro e w1 ⟨base,vd,vn,vc,rfl,hb1⟩;have HB1:Hid (Below w.heap.size w w1):=hb1;clear hb1);go_ret2;exact⟨rfl,HB1.out.alloc HB1.out.size _⟩
theorem New_dict(B:Nat)(w:World)(hB:B≤w.heap.size)(ht:TabB B w):
 Calls Tryz.prog 37 #[] w fun e w'=>∃db,e = .returned (.pointer (some ⟨db,0,none⟩))∧LoadSays B w w' [] db:=by
 have HLD:Hid (Calls Tryz.prog 17 #[.slice none 0 0] w fun e w'=>∃db,e = .returned (.tuple #[.pointer (some ⟨db,0,none⟩),.int .i64 0])∧LoadSays B w w' [] db):=zLk B w hB ht _ [] (PRow.nil w) (fun x hx=>by cases hx) (by rfl);clear hB ht;go_enter Tryz.func37,Tryz.ntmps37;go_wp2_with (go_at_call 17;refine HLD.out.mono ?_;rintro e w1 ⟨db,rfl,hls⟩;have HLS:Hid (LoadSays B w w1 [] db):=hls;clear hls);go_ret;exact⟨db,rfl,HLS.out⟩
structure Sdb(db wb:Nat)(v:Value)(W:World):Prop where
 c0:W.cell? ⟨db,0,none⟩=some (.pointer (some ⟨wb,0,none⟩))
 c1:W.cell? ⟨db,1,none⟩=some v
theorem Sdb.facts{db wb:Nat}{v:Value}{W:World}(h:Sdb db wb v W):W.cell? ⟨db,0,none⟩=some (.pointer (some ⟨wb,0,none⟩))∧W.cell? ⟨db,1,none⟩=some v:=⟨h.1,h.2⟩
theorem DictAt.sdb{B:Nat}{w:World}{db lo hi wb:Nat}{v:Value}{base over:List Pr}(h:DictAt B w db lo hi wb v base over):Sdb db wb v w:=⟨h.cells.1,h.cells.2.1⟩
theorem Sdb.below{db wb:Nat}{v:Value}{w w':World}(h:Sdb db wb v w)(hb:Below w.heap.size w w'):Sdb db wb v w':=
 ⟨(hb.cell (p:=⟨db,0,none⟩) (World.block_lt_of_cell? _ _ h.c0)).trans h.c0,(hb.cell (p:=⟨db,1,none⟩) (World.block_lt_of_cell? _ _ h.c1)).trans h.c1⟩
theorem zNt(B:Nat)(w:World)(db lo hi wb:Nat)(v:Value)(base over:List Pr)(h:DictAt B w db lo hi wb v base over):
 Calls Tryz.prog 39 #[.pointer (some ⟨db,0,none⟩)] w fun e w'=>∃u,e = .returned u∧POwn w.heap.size w' u (zAm zAa base over)∧Below w.heap.size w w':=by
 obtain⟨vd,vc,rfl⟩:=h.own.shape;have hl:=(zAt h.ok.ok).2.2;have hlo:=h.ok.few;have HS:Hid (∀W,Below w.heap.size w W→Sdb db wb (.slice vd over.length vc) W):=fun W hW=>h.sdb.below hW
 have HAA:Hid (∀W,Below w.heap.size w W→Calls Tryz.prog 61 #[.pointer (some ⟨wb,0,none⟩)] W fun e w'=>∃c0 c1,e = .returned (.func (.func 138) #[] #[.pointer (some ⟨c0,0,none⟩),.pointer (some ⟨c1,0,none⟩)])∧Below W.heap.size W w'∧zLn (.func (.func 138) #[] #[.pointer (some ⟨c0,0,none⟩),.pointer (some ⟨c1,0,none⟩)]) w' base):=fun W hW=>WAll_any W wb base (h.on.below hW)
 have HMG:Hid (∀W u,Below w.heap.size w W→PRow W u base→Calls Tryz.prog 59 #[u,.slice vd over.length vc] W fun e w'=>∃v',e = .returned v'∧POwn W.heap.size w' v' (zAm zAa base over)∧Below W.heap.size W w'):=fun W u hW hu=>zXu W u _ base over hu (h.row.below hW) (by omega) (by omega)
 generalize over.length=no at *;clear h hl hlo;go_enter Tryz.func39,Tryz.ntmps39;go_upto_region 1 with fail
 have hbd:Below w.heap.size w w.drew:=(Below.refl _ w).drew;have hS0:=HS.out w.drew hbd;refine zAf (S:=Sdb db wb (.slice vd no vc)) 12 rfl zAn hS0 (fun _=>?_);refine tq4 Sdb.facts 0 3 1 4 2 5 3 6 ?_;simp only[sZa,sZb,sZc];refine tq4 Sdb.facts 6 9 7 10 8 11 9 12 ?_;simp only[sZa,sZb,sZc];refine oc 4 w.drew 7 61 #[.pointer (some ⟨wb,0,none⟩)] ?_;refine(HAA.out _ hbd).mono ?_;rintro e w1 ⟨c0,c1,rfl,hb1,hts⟩;have HB1:Hid (Below w.heap.size w w1):=hbd.trans (hb1.mono hbd.size);have hS1:=HS.out w1 HB1.out;refine⟨_,rfl,hS1,fun _=>?_⟩;simp only[sZa,sZb,sZc];refine oc 5 w1 8 60 #[.func (.func 138) #[] #[.pointer (some ⟨c0,0,none⟩),.pointer (some ⟨c1,0,none⟩)]] ?_;refine(hts w1 (Below.refl _ _)).mono ?_;rintro e w2 ⟨u2,rfl,ho2,hb2⟩;obtain⟨ud,uc,rfl⟩:=ho2.shape;have HB2:Hid (Below w.heap.size w w2):=HB1.out.trans (hb2.mono HB1.out.size);have HO2:Hid (PRow w2 (.slice ud base.length uc) base):=ho2.row;have hS2:=HS.out w2 HB2.out;clear hts hb1 hb2 ho2;refine⟨_,rfl,hS2,fun _=>?_⟩;simp only[sZa,sZb,sZc];refine oc 10 w2 13 59 #[.slice ud base.length uc,.slice vd no vc] ?_;refine(HMG.out _ _ HB2.out HO2.out).mono ?_;rintro e w3 ⟨u3,rfl,ho3,hb3⟩;obtain⟨xd,xc,hx⟩:=ho3.shape;have HB3:Hid (Below w.heap.size w w3):=HB2.out.trans (hb3.mono HB2.out.size);have HO3:Hid (POwn w.heap.size w3 u3 (zAm zAa base over)):=ho3.mono HB2.out.size;have hS3:=HS.out w3 HB3.out;subst hx;clear hb3 ho3;refine⟨_,rfl,hS3,fun _=>?_⟩;simp only[sZa,sZb,sZc];refine tq Sdb.facts 11 2 ?_;simp only[sZa,sZb,sZc];refine wpAnyH_done (by kernel_rfl) ?_ _;clear hS0 hS1 hS2 hS3;go_wp2;go_ret;exact⟨_,rfl,HO3.out,HB3.out⟩
theorem zFc(w:World)(db:Nat)(vd:Option Addr)(n vc:Nat)(c1:w.cell? ⟨db,1,none⟩=some (.slice vd n vc)):
 Calls Tryz.prog 19 #[.pointer (some ⟨db,0,none⟩)] w fun e w'=>e = .returned (.int .i64 (n:Int))∧w'=w:=by
 go_enter Tryz.func19,Tryz.ntmps19;go_wp2;go_ret;exact⟨rfl,rfl⟩
theorem Dok.words_sm{base over:List Pr}(h:Dok base over):Sm (zAm zAa base over):=fun x hx=>by
 obtain⟨_,_,_,_,hs96,_⟩:=zA4 (x:=x) ((zAt h.all).1 x hx).1;omega
structure CompSays(B:Nat)(w w':World)(db:Nat)(L:List Pr):Prop where
 ex:∃lo hi wb,DictAt B w' db lo hi wb (.slice none 0 0) L []∧w.heap.size≤lo
 upd:Upd (fun k=>k=db) w w'
theorem zO0{B:Nat}{w w2:World}{db lo hi wb:Nat}{v:Value}{base over:List Pr}(h:DictAt B w db lo hi wb v base over)(hb:Below w.heap.size w w2){lo2 hi2 wb2:Nat}{db2:Nat}(h2:DictAt B w2 db2 lo2 hi2 wb2 (.slice none 0 0) (zAm zAa base over) [])(hlo:w.heap.size≤lo2):
 CompSays B w ((w2.setCell ⟨db,0,none⟩ (.pointer (some ⟨wb2,0,none⟩))).setCell ⟨db,1,none⟩ (.slice none 0 0)) db (zAm zAa base over):=by
 have hdb:=h.lt;have hu1:Upd (fun k=>k=db) w2 (w2.setCell ⟨db,0,none⟩ (.pointer (some ⟨wb2,0,none⟩))):=zBp w2 db 0 _;have hu2:Upd (fun k=>k=db) (w2.setCell ⟨db,0,none⟩ (.pointer (some ⟨wb2,0,none⟩))) ((w2.setCell ⟨db,0,none⟩ (.pointer (some ⟨wb2,0,none⟩))).setCell ⟨db,1,none⟩ (.slice none 0 0)):=zBp _ db 1 _;have hu:=hu1.trans hu2 (fun _ _ g=>g);have hblk:w2.heap[db]?=some (.cells #[.pointer (some ⟨wb,0,none⟩),v] 81):=(hb.block db hdb).trans h.blk;have hk:=h2.wk.keep hu.size (fun j a b=>hu.block j (Nat.lt_of_lt_of_le b h2.wk.1) (fun e=>by omega));refine⟨⟨lo2,hi2,wb2,⟨h.low,h2.ok,h2.tabs.go (hu.below h2.size (fun k e=>by rw[e];exact h.low)),?_,hk,POwn.nil _ _,fun e=>(by cases e),by omega,fun k e=>(by cases e),fun _=>rfl⟩,hlo⟩,(Upd.of_below hb).trans hu (fun _ _ g=>g)⟩;have e1:(w2.setCell ⟨db,0,none⟩ (.pointer (some ⟨wb2,0,none⟩))).heap[db]?=some (.cells #[.pointer (some ⟨wb2,0,none⟩),v] 81):=by rw[zAu hblk];rfl
 rw[zAu e1];rfl
theorem zPn(B:Nat)(w:World)(db lo hi wb:Nat)(v:Value)(base over:List Pr)(h:DictAt B w db lo hi wb v base over):
 Calls Tryz.prog 25 #[.pointer (some ⟨db,0,none⟩)] w fun e w'=>e = .returned (.tuple #[])∧CompSays B w w' db (zAm zAa base over):=by
 have HP:Hid (Calls Tryz.prog 39 #[.pointer (some ⟨db,0,none⟩)] w fun e w'=>∃u,e = .returned u∧POwn w.heap.size w' u (zAm zAa base over)∧Below w.heap.size w w'):=zNt B w db lo hi wb v base over h;have HL:Hid (∀W u,Below w.heap.size w W→PRow W u (zAm zAa base over)→Calls Tryz.prog 17 #[u] W fun e w'=>∃db,e = .returned (.tuple #[.pointer (some ⟨db,0,none⟩),.int .i64 0])∧LoadSays B W w' (zAm zAa base over) db):=fun W u hW hu=>zLk B W (Nat.le_trans h.size hW.size) (h.tabs.go (hW.mono h.size)) u _ hu h.ok.words_sm h.ok.all
 have HH:Hid (DictAt B w db lo hi wb v base over):=h;have hlt:=h.lt;clear h;go_enter Tryz.func25,Tryz.ntmps25
 go_upto_region 1 with(first
  |(go_at_call 39;refine HP.out.mono ?_;rintro e w1 ⟨u1,rfl,ho1,hb1⟩;have HO1:Hid (PRow w1 u1 (zAm zAa base over)):=ho1.row;have HB1:Hid (Below w.heap.size w w1):=hb1;obtain⟨ud,uc,hu1⟩:=ho1.shape;subst hu1;clear ho1 hb1)
  |(go_at_call 17;refine(HL.out _ _ HB1.out HO1.out).mono ?_;rintro e w2 ⟨db2,rfl,hls⟩;have HLS:Hid (LoadSays B w1 w2 (zAm zAa base over) db2):=hls;clear hls))
 have HB2:Hid (Below w.heap.size w w2):=HB1.out.trans (HLS.out.bel.mono HB1.out.size);obtain⟨lo2,hi2,wb2,hd2,hlo2⟩:=HLS.out.ex;have HD2:Hid (DictAt B w2 db2 lo2 hi2 wb2 (.slice none 0 0) (zAm zAa base over) []):=hd2;have HLO:Hid (w.heap.size≤lo2∧w.heap.size≤db2):=⟨Nat.le_trans HB1.out.size hlo2,Nat.le_trans HB1.out.size HLS.out.lo⟩;obtain⟨x0,x1,_,_⟩:=hd2.cells;obtain⟨_,_,f0,f1⟩:=(HH.out.below HB2.out).cells;clear hd2 hlo2;go_wp2;go_returns;exact⟨rfl,zO0 HH.out HB2.out HD2.out HLO.out.1⟩
end Di
namespace Di
theorem zMj(over:List Pr)(p:Pr):norm zAa (over++[p])≠[]:=fun e=>by
 have:=zCq lessB_sto (over++[p]) p.1;rw[e,zEq,zMy,if_pos rfl]at this;cases this
theorem zSu{B:Nat}{w W1 w2 w3:World}{db lo hi wb:Nat}{v v3:Value}{base over:List Pr}{p:Pr}(h:DictAt B w db lo hi wb v base over)(hb1:Below w.heap.size w W1)(hg:W1.grownBy w2 v.ownBlock)(hb3:Below w2.heap.size w2 w3)(ho3:POwn w2.heap.size w3 v3 (norm zAa (over++[p])))(hk:Dok base (norm zAa (over++[p]))):
 DictAt B (w3.setCell ⟨db,1,none⟩ v3) db lo hi wb v3 base (norm zAa (over++[p]))∧Upd (fpD db v) w (w3.setCell ⟨db,1,none⟩ v3)∧(∀k,v3.ownBlock=some k→w.heap.size≤k)∧w3.cell? ⟨db,1,none⟩=some v∧w3.frozen? ⟨db,1,none⟩=false:=by
 have hdb:=h.lt;have hu2:Upd (fpD db v) w w2:=(Upd.of_below hb1).trans (G:=fun k=>v.ownBlock=some k) ⟨hg.os,hg.tape,hg.output,hg.size,fun k hk hn=>hg.block k hk (fun e=>hn e.symm)⟩ (fun k _ g => .inr g);have hu3:Upd (fpD db v) w w3:=hu2.trans (G:=fun _=>False) (Upd.of_below hb3) (fun _ _ g=>g.elim);have hb2:w2.heap[db]?=some (.cells #[.pointer (some ⟨wb,0,none⟩),v] 81):=(hg.block db (Nat.lt_of_lt_of_le hdb hb1.size) (fun e=>h.nd e.symm)).trans ((hb1.block db hdb).trans h.blk);have hblk:w3.heap[db]?=some (.cells #[.pointer (some ⟨wb,0,none⟩),v] 81):=(hb3.block db (Nat.lt_of_lt_of_le hdb hu2.size)).trans hb2;have hus:Upd (fun k=>k=db) w3 (w3.setCell ⟨db,1,none⟩ v3):=zBp w3 db 1 _;have hu:Upd (fpD db v) w (w3.setCell ⟨db,1,none⟩ v3):=hu3.trans hus (fun k _ g => .inl g);have hnew:∀k,v3.ownBlock=some k→w.heap.size≤k:=fun k e=>Nat.le_trans hu2.size (zA5 ho3 e).1
 have hv3:v3.ownBlock≠some db:=fun e=>by have:=hnew db e;omega
 refine⟨⟨h.low,hk,h.tabs.go (hu.below h.size fun k g=>(h.fp k g).1),by rw[zAu hblk];rfl,h.wk.keep hu.size (fun j a b=>hu.block j (Nat.lt_of_lt_of_le b h.wk.1) (fun g=>?_)),?_,hv3,h.nw,fun k e=>?_,fun e=>absurd e (zMj over p)⟩,hu,hnew,by simp[World.cell?,hblk],by simp[World.frozen?,hblk]⟩
 · rcases g with g|g
   · exact h.nw (by rw[←g];exact⟨a,b⟩)
   · exact h.nv j g ⟨a,b⟩
 · have:=zDb ho3 (w':=w3.setCell ⟨db,1,none⟩ v3) fun g hg=>hus.block g (zA5 ho3 hg).2 (fun e=>hv3 (e▸hg))
   exact this.mono (Nat.le_trans h.size hu2.size)
 · have h1:=hnew k e
   have h2:=h.wk.1;omega
theorem zO4{B:Nat}{w w4 w5:World}{db lo hi:Nat}{v:Value}{L:List Pr}(hu:Upd (fpD db v) w w4)(hc:CompSays B w4 w5 db L)(hL:zAm zAa L []=L):MutSays B w w5 db lo hi v L:=by
 obtain⟨lo',hi',wb',hd,hlo⟩:=hc.ex;exact⟨⟨lo',hi',wb',.slice none 0 0,L,[],hd,by simp,hL,.inr (fun k e=>by cases e),.inr (Nat.le_trans hu.size hlo)⟩,hu.trans hc.upd (fun k _ g => .inl g)⟩
theorem zKp(over:List Pr)(p:Pr):(norm zAa (over++[p])).length≤over.length+1:=by
 have:=zG1 (over++[p]);rw[List.length_append,List.length_singleton]at this;exact this
theorem zSv(B:Nat)(w:World)(db lo hi wb:Nat)(v:Value)(base over:List Pr)(h:DictAt B w db lo hi wb v base over)(hf:over.length≤32)(p:Pr)(hw:zAq p.1.data.toList=true)(h0:0≤p.2)(h1:p.2≤1048576)(hl:(zAm zAa base (norm zAa (over++[p]))).length≤4096):
 Calls Tryz.prog 57 #[.pointer (some ⟨db,0,none⟩),.string p.1,.int .i64 p.2] w fun e w'=>e = .returned (.tuple #[])∧MutSays B w w' db lo hi v (zAm zAa base (norm zAa (over++[p]))):=by
 have hnl:=zKp over p;have hk:=h.ok.next hw h0 h1 hl (by omega)
 obtain⟨vd,vc,rfl⟩:=h.own.shape;obtain⟨c0,c1,_,_⟩:=h.cells;obtain⟨W1,hW1⟩:∃W1,W1=w.alloc (.cells #[.string p.1,.int .i64 p.2] 64):=⟨_,rfl⟩;obtain⟨N,hN⟩:∃N,norm zAa (over++[p])=N:=⟨_,rfl⟩;obtain⟨n,hn⟩:∃n,N.length=n:=⟨_,rfl⟩;have HN:Hid (norm zAa (over++[p])=N∧N.length=n∧n≤33):=⟨hN,hn,by rw[←hn,←hN];omega⟩;have HD:Hid (DictAt B w db lo hi wb (.slice vd over.length vc) base over):=h;have HK:Hid (Dok base (norm zAa (over++[p]))):=hk;have HO:Hid (POwn B w (.slice vd over.length vc) over):=h.own;have HB:Hid (B≤w.heap.size∧over.length≤32):=⟨h.size,hf⟩
 have HNO:Hid (∀W u,PRow W u (over++[p])→Calls Tryz.prog 77 #[u] W fun x w'=>∃a c,x = .returned (.slice a n c)∧POwn W.heap.size w' (.slice a n c) (norm zAa (over++[p]))∧Below W.heap.size W w'):=fun W u hu=>(zRj W u _ hu (by rw[List.length_append,List.length_singleton];omega)).mono (by
  rintro x w' ⟨v',rfl,hown,hb⟩;obtain⟨a,c,hsh⟩:=POwn.shape hown;rw[hN,hn]at hsh;subst hsh;exact⟨a,c,rfl,hown,hb⟩)
 have HC:Hid (∀W v3,DictAt B W db lo hi wb v3 base (norm zAa (over++[p]))→Calls Tryz.prog 25 #[.pointer (some ⟨db,0,none⟩)] W fun e w'=>e = .returned (.tuple #[])∧CompSays B W w' db (zAm zAa base (norm zAa (over++[p])))):=fun W v3 hd=>zPn B W db lo hi wb v3 _ _ hd
 generalize over.length=no at *;clear h hf hw h0 h1 hl hnl hk hN hn hW1 W1;obtain⟨s,x⟩:=p;simp only at *;go_enter Tryz.func57,Tryz.ntmps57
 go_upto_region 1 with(first
  |(at_builtin;refine zF2 rfl _ _ rfl B _ _ over [(s,x)] rfl (HO.out.below ((Below.refl _ w).alloc (Nat.le_refl _) _)) rfl (PRow.one (TwoAt.new w (s,x) _)) (by have:=HB.out.2;have:=HD.out.own.shape;obtain⟨_,_,e⟩:=this;simp only[Value.slice.injEq]at e;rw[List.length_singleton];omega) (by have:=HB.out.1;simp;omega) ?_;intro v2 w2 ho2 hb2 hg2;have HG2:Hid ((w.alloc (.cells #[.string s,.int .i64 x] 64)).grownBy w2 (Value.slice vd no vc).ownBlock):=hg2;have HR2:Hid (PRow w2 v2 (over++[(s,x)])):=ho2.row;obtain⟨vd2,n2,vc2,hv2⟩:∃a n c,v2=Value.slice a n c:=(by obtain⟨a,c,e⟩:=ho2.shape;exact⟨_,_,_,e⟩);subst hv2;clear ho2 hb2 hg2)
  |(go_at_call 77;refine(HNO.out _ _ HR2.out).mono ?_;rintro e w3 ⟨a3,c3,rfl,ho3,hb3⟩;obtain⟨k1,k2,k3,k4,k5⟩:=zSu HD.out ((Below.refl _ w).alloc (Nat.le_refl _) _) HG2.out hb3 ho3 HK.out;have HK1:Hid (DictAt B (w3.setCell ⟨db,1,none⟩ (.slice a3 n c3)) db lo hi wb (.slice a3 n c3) base (norm zAa (over++[(s,x)]))):=k1;have HK2:Hid (Upd (fpD db (.slice vd no vc)) w (w3.setCell ⟨db,1,none⟩ (.slice a3 n c3))∧∀k,(Value.slice a3 n c3).ownBlock=some k→w.heap.size≤k):=⟨k2,k3⟩;clear k1 k2 k3 ho3 hb3))
 obtain⟨W4,hW4⟩:∃W4,w3.setCell ⟨db,1,none⟩ (.slice a3 n c3)=W4:=⟨_,rfl⟩;rw[hW4]at HK1 HK2 ⊢;have HCH:Hid (Calls Tryz.prog 19 #[.pointer (some ⟨db,0,none⟩)] W4 fun e w'=>e = .returned (.int .i64 (n:Int))∧w'=W4):=zFc W4 db a3 n c3 HK1.out.cells.2.1;clear hW4 k4 k5 c0 c1;by_cases hn32:32<n
 · have hz:(32:Int)<(n:Int):=by omega
   go_wp2_with (first
    |(go_at_call 19;refine HCH.out.mono ?_;rintro e w5 ⟨rfl,hw5⟩;rw[hw5];clear hw5)
    |(go_at_call 25;refine(HC.out _ _ HK1.out).mono ?_;rintro e w6 ⟨rfl,hcs⟩;have HCS:Hid _:=hcs;clear hcs))
   go_returns;exact⟨rfl,zO4 HK2.out.1 HCS.out (Dok.start HK1.out.ok.all).2⟩
 · have hz:¬(32:Int)<(n:Int):=by omega
   go_wp2_with (go_at_call 19;refine HCH.out.mono ?_;rintro e w5 ⟨rfl,hw5⟩;rw[hw5];clear hw5);go_returns;exact⟨rfl,⟨lo,hi,wb,_,base,_,HK1.out,by rw[HN.out.1,HN.out.2.1];omega,rfl,.inr HK2.out.2,.inl ⟨rfl,rfl⟩⟩,HK2.out.1⟩
theorem zN3{base over:List Pr}(h:Dok base over){s:ByteArray}{x:Int}(hf:Pm.find over s=some x):(Pm.find (zAm zAa base over) s).getD 0=x∧(Pm.find (zAm zAa base over) s).isSome=decide (0<x):=by
 rw[h.find,hf];have h0:=(h.wd _ (find_mem hf)).2.1;simp only at h0;by_cases e:x=0
 · subst e;simp
 · simp only[e,if_false]
   refine⟨rfl,?_⟩;symm;exact decide_eq_true (by omega)
theorem zS9(B:Nat)(w:World)(db lo hi wb:Nat)(v:Value)(base over:List Pr)(h:DictAt B w db lo hi wb v base over)(s:ByteArray)(hs:s.size≤9223372036854775807):
 Calls Tryz.prog 20 #[.pointer (some ⟨db,0,none⟩),.string s] w fun e w'=>e = .returned (.tuple #[.int .i64 ((Pm.find (zAm zAa base over) s).getD 0),.bool (Pm.find (zAm zAa base over) s).isSome])∧Below w.heap.size w w':=by
 obtain⟨vd,vc,rfl⟩:=h.own.shape;obtain⟨c0,c1,_,_⟩:=h.cells;have HF:Hid (Calls Tryz.prog 44 #[.slice vd over.length vc,.string s] w fun e w'=>e = .returned (.tuple #[.int .i64 ((Pm.find over s).getD 0),.bool (Pm.find over s).isSome])∧w'=w):=zUl w _ over s h.row (by have:=h.ok.few;omega);generalize over.length=no at *;cases hf:Pm.find over s with
 |some x=>
  obtain⟨e1,e2⟩:=zN3 h.ok hf;rw[hf]at HF;rw[e1,e2];simp only[Option.getD_some,Option.isSome_some]at HF;clear h hf e1 e2;go_enter Tryz.func20,Tryz.ntmps20;go_wp2_with (go_at_call 44;refine HF.out.mono ?_;rintro e w1 ⟨rfl,hw1⟩;rw[hw1];clear hw1);go_ret2;exact⟨rfl,Below.refl _ _⟩
 |none=>
  have e1:Pm.find (zAm zAa base over) s=Pm.find base s:=by rw[h.ok.find,hf]
  rw[hf]at HF;rw[e1];simp only[Option.getD_none,Option.isSome_none]at HF;have HW:Hid (Calls Tryz.prog 45 #[.pointer (some ⟨wb,0,none⟩),.string s] w fun e w'=>e = .returned (.tuple #[.int .i64 ((Pm.find base s).getD 0),.bool (Pm.find base s).isSome])∧Below w.heap.size w w'):=zRl w wb base h.on s hs;generalize (Pm.find base s).getD 0=x at *;generalize (Pm.find base s).isSome=b at *;clear h hf e1 hs;go_enter Tryz.func20,Tryz.ntmps20
  go_wp2_with (first
   |(go_at_call 44;refine HF.out.mono ?_;rintro e w1 ⟨rfl,hw1⟩;rw[hw1];clear hw1)
   |(go_at_call 45;refine HW.out.mono ?_;rintro e w2 ⟨rfl,hb2⟩))
  go_ret2;exact⟨rfl,hb2⟩
end Di
namespace Di
structure S5l(db wb pb:Nat)(s:ByteArray)(W:World):Prop where
 c0:W.cell? ⟨db,0,none⟩=some (.pointer (some ⟨wb,0,none⟩))
 p0:W.cell? ⟨pb,0,none⟩=some (.string s)
theorem S5l.facts{db wb pb:Nat}{s:ByteArray}{W:World}(h:S5l db wb pb s W):W.cell? ⟨db,0,none⟩=some (.pointer (some ⟨wb,0,none⟩))∧W.cell? ⟨pb,0,none⟩=some (.string s):=⟨h.1,h.2⟩
theorem S5l.below{db wb pb:Nat}{s:ByteArray}{w w':World}(h:S5l db wb pb s w)(hb:Below w.heap.size w w'):S5l db wb pb s w':=
 ⟨(hb.cell (p:=⟨db,0,none⟩) (World.block_lt_of_cell? _ _ h.c0)).trans h.c0,(hb.cell (p:=⟨pb,0,none⟩) (World.block_lt_of_cell? _ _ h.p0)).trans h.p0⟩
def lenJ(base over:List Pr)(j:Nat):Int:=((zAm zAa base (over.take j)).length:Int)
theorem zVf{base over:List Pr}(h:Dok base over){j:Nat}{p:Pr}(hp:over[j]?=some p):lenJ base over (j+1)=lenJ base over j-(if (Pm.find base p.1).isSome then 1 else 0)+(if 0<p.2 then 1 else 0):=by
 have h1:=len_step lessB_sto h.up hp (zHf h.ok);have h2:=(h.wd p (List.mem_of_getElem? hp)).2.1;unfold lenJ;have e:(if p.2=0 then 0 else 1:Nat)=(if 0<p.2 then 1 else 0):=by
  by_cases h0:p.2=0
  · rw[if_pos h0,if_neg (by omega)]
  · rw[if_neg h0,if_pos (by omega)]
 rw[e]at h1
 split at h1<;>split at h1<;>simp_all<;>omega
theorem Len_any(B:Nat)(w:World)(db lo hi wb:Nat)(v:Value)(base over:List Pr)(h:DictAt B w db lo hi wb v base over):
 Calls Tryz.prog 35 #[.pointer (some ⟨db,0,none⟩)] w fun e w'=>e = .returned (.int .i64 ((zAm zAa base over).length:Int))∧Below w.heap.size w w':=by
 obtain⟨vd,vc,hv⟩:=h.own.shape;subst hv;obtain⟨n,hn⟩:∃n,over.length=n:=⟨_,rfl⟩;rw[hn]at h;have hb0:=(zAt h.ok.ok).2.2;have h33:=h.ok.few;rw[hn]at h33;have HN:Hid (over.length=n):=hn;have HOK:Hid (Dok base over):=h.ok;have HS:Hid (∀W,Below w.heap.size w W→Sdb db wb (.slice vd n vc) W):=fun W hW=>h.sdb.below hW
 have HR:Hid (PRow w (.slice vd n vc) over):=h.row;have HLN:Hid (∀W,Below w.heap.size w W→Calls Tryz.prog 58 #[.pointer (some ⟨wb,0,none⟩)] W fun e w'=>e = .returned (.int .i64 (base.length:Int))∧Below W.heap.size W w'):=fun W hW=>LenW_any W wb base (h.on.below hW)
 have HFD:Hid (∀W s,Below w.heap.size w W→s.size≤9223372036854775807→Calls Tryz.prog 45 #[.pointer (some ⟨wb,0,none⟩),.string s] W fun e w'=>e = .returned (.tuple #[.int .i64 ((Pm.find base s).getD 0),.bool (Pm.find base s).isSome])∧Below W.heap.size W w'):=fun W s hW hs=>zRl W wb base (h.on.below hW) s hs
 have HL0:Hid (lenJ base over 0=(base.length:Int)):=by
  show lenJ base over 0=_;unfold lenJ;rw[List.take_zero,zJe lessB_sto (zF1 h.ok.ok) (zHf h.ok.ok)]
 have HLE:Hid (lenJ base over n=((zAm zAa base over).length:Int)):=by
  show lenJ base over n=_;unfold lenJ;rw[List.take_of_length_le (by omega)]
 have HLB:Hid (∀j,0≤lenJ base over j∧lenJ base over j≤8192):=fun j=>by
  unfold lenJ;have h1:(zAm zAa base (over.take j)).length≤(norm zAa (base++over.take j)).length:=List.length_filter_le _ _;have h2:=zG1 (base++over.take j);rw[List.length_append]at h2;have h3:(over.take j).length≤over.length:=List.length_take_le' _ _;omega
 have hsd:=h.sdb;obtain⟨c0,c1⟩:=hsd.facts;have HSM:Hid (Sm over):=h.ok.sm.1;clear h hn hb0 hsd;rw[←HLE.out];go_enter Tryz.func35,Tryz.ntmps35;go_upto_region 2 with(go_at_call 58;refine(HLN.out _ (Below.refl _ _)).mono ?_;rintro e w1 ⟨rfl,hb1⟩;have HB1:Hid (Below w.heap.size w w1):=hb1;clear hb1)
 obtain⟨d0,d1⟩:=(HS.out w1 HB1.out).facts;clear c0 c1;rw[←HL0.out];go_wp2;clear d0 d1
 go_loopg [3,5,6,7,18] n (fun gm s3 s5 s6 s7 s18 wr=>∃(j:Nat),s18 = .int .i64 j∧j≤n∧n-j≤gm∧s3 = .int .i64 (lenJ base over j)∧Hid (Below w.heap.size w wr))
 case atStart=>exact⟨0,rfl,Nat.zero_le _,by omega,rfl,HB1⟩
 case round=>
  obtain⟨j,rfl,hj,hgm,rfl,HB⟩:=hrel;by_cases hlt:j<n
  · have hltz:(j:Int)<(n:Int):=by omega
    obtain⟨p,hp⟩:∃p,over[j]?=some p:=⟨over[j]'(by have:=HN.out;omega),List.getElem?_eq_getElem _⟩;obtain⟨g,off,hgo,hg,hcell⟩:=HR.out.at (by omega);subst hgo;obtain⟨x0,x1⟩:=(hcell j p hp).below hg HB.out;have HST:Hid (lenJ base over (j+1)=lenJ base over j-(if (Pm.find base p.1).isSome then 1 else 0)+(if 0<p.2 then 1 else 0)):=zVf HOK.out hp;have HPS:Hid (p.1.size≤9223372036854775807):=HSM.out p (List.mem_of_getElem? hp);obtain⟨q1,q2⟩:=HLB.out j;obtain⟨W5,hW5⟩:∃W5,W5=wr.alloc (.cells #[.string p.1,.int .i64 p.2] 64):=⟨_,rfl⟩;obtain⟨pb,hpb⟩:∃pb,pb=wr.heap.size:=⟨_,rfl⟩;(have hn5:W5.heap[pb]?=some (.cells #[.string p.1,.int .i64 p.2] 64):=by rw[hW5,hpb];exact zAb _ _);(have HB5:Hid (Below w.heap.size w W5):=by show Below _ _ _;rw[hW5];exact HB.out.trans (((Below.refl _ wr).alloc (Nat.le_refl _) _).mono HB.out.size));have hbd:Below W5.heap.size W5 W5.drew:=(Below.refl _ W5).drew;have HBD:Hid (Below w.heap.size w W5.drew):=HB5.out.trans (hbd.mono HB5.out.size);have hS5:S5l db wb pb p.1 W5:=⟨(HS.out W5 HB5.out).c0,by simp[World.cell?,hn5]⟩;have hSd:=hS5.below hbd;have HSD:Hid (S5l db wb pb p.1 W5.drew):=hSd;have HPB:Hid (∀W,Below W5.drew.heap.size W5.drew W→W.cell? ⟨pb,1,none⟩=some (.int .i64 p.2)):=fun W hW=>by
     have h5:W5.drew.heap[pb]?=some (.cells #[.string p.1,.int .i64 p.2] 64):=hn5;have:=(hW.block pb (Array.getElem?_eq_some_iff.1 h5).1).trans h5;simp[World.cell?,this]
    clear hcell hp hn5 hg;(go_upto_region 5 with fail);rw[←hpb,←hW5];clear hpb hW5 x0 x1 hS5 hbd;refine zAf (S:=S5l db wb pb p.1) 12 rfl zAn hSd (fun _=>?_);refine tq4 S5l.facts 0 23 1 24 2 25 3 26 ?_;simp only[sZa,sZb,sZc];refine tq2 S5l.facts 4 27 5 28 ?_;simp only[sZa,sZb,sZc];refine oc 6 W5.drew 29 45 #[.pointer (some ⟨wb,0,none⟩),.string p.1] ?_;refine(HFD.out _ _ HBD.out HPS.out).mono ?_;rintro e W6 ⟨rfl,hb6⟩;have hS6:=HSD.out.below hb6;have HB4:Hid (Below w.heap.size w W6):=HBD.out.trans (hb6.mono HBD.out.size);have y1:=HPB.out W6 hb6;clear hb6;obtain⟨fb,hfb⟩:∃fb,(Pm.find base p.1).isSome=fb:=⟨_,rfl⟩;obtain⟨fx,hfx⟩:∃fx,(Pm.find base p.1).getD 0=fx:=⟨_,rfl⟩;rw[hfb,hfx];have HFB:Hid ((Pm.find base p.1).isSome=fb):=hfb;clear hfb hfx;refine⟨_,rfl,hS6,fun _=>?_⟩;simp only[sZa,sZb,sZc];refine tq4 S5l.facts 7 22 8 30 9 31 10 6 ?_;simp only[sZa,sZb,sZc];refine tq S5l.facts 11 7 ?_;simp only[sZa,sZb,sZc];refine wpAnyH_done (by kernel_rfl) ?_ _;clear hS6 hSd;generalize lenJ base over j=L at *;(have w1:IntKind.i64.wrap (L-1)=L-1:=by rw[IntKind.wrap_i64];omega);have w2:IntKind.i64.wrap (L+1)=L+1:=wrap_small _ (by omega) (by omega);have w3:IntKind.i64.wrap (L-1+1)=L-1+1:=wrap_small _ (by omega) (by omega);cases fb
    · by_cases hp0:0<p.2
      · go_wp2
        go_roundg (n-(j+1));(case measure=>omega);case rel=>exact⟨j+1,by go_num,by omega,Nat.le_refl _,by rw[HST.out,HFB.out];first|rfl|(simp;done)|(simp;omega),HB4.out⟩
      · go_wp2
        go_roundg (n-(j+1));(case measure=>omega);case rel=>exact⟨j+1,by go_num,by omega,Nat.le_refl _,by rw[HST.out,HFB.out];first|rfl|(simp;done)|(simp;omega),HB4.out⟩
    · by_cases hp0:0<p.2
      · go_wp2
        go_roundg (n-(j+1));(case measure=>omega);case rel=>exact⟨j+1,by go_num,by omega,Nat.le_refl _,by rw[HST.out,HFB.out];first|rfl|(simp;done)|(simp;omega),HB4.out⟩
      · go_wp2
        go_roundg (n-(j+1));(case measure=>omega);case rel=>exact⟨j+1,by go_num,by omega,Nat.le_refl _,by rw[HST.out,HFB.out];first|rfl|(simp;done)|(simp;omega),HB4.out⟩
  · have hltz:¬(j:Int)<(n:Int):=by omega
    (have hjn:j=n:=by omega);subst hjn;go_wp2;go_ret;exact⟨rfl,HB.out⟩
end Di
namespace Di
def setE(L:List Pr)(s:ByteArray)(x:Int):Int:=if zAq s.data.toList=false then 140 else if x<1∨1048576<x then 141 else if (Pm.find L s).isSome=false∧4096≤L.length then 142 else 0
def setL(L:List Pr)(s:ByteArray)(x:Int):List Pr:=if setE L s x=0 then put zAa L (s,x)else L
def setH(L:List Pr)(s:ByteArray)(x:Int):Int:=if setE L s x=0 then (Pm.find L s).getD 0 else 0
def remE(L:List Pr)(s:ByteArray):Int:=if zAq s.data.toList=false then 140 else if (Pm.find L s).isSome=false then 143 else 0
def remL(L:List Pr)(s:ByteArray):List Pr:=if remE L s=0 then out s L else L
theorem set_len{L:List Pr}(hb:zAl L=0){s:ByteArray}{x:Int}(he:setE L s x=0):(put zAa L (s,x)).length≤4096:=by
 have h1:=zKj lessB_sto (s,x) L (zF1 hb);have h2:=(zAt hb).2.2;unfold setE at he
 split at he
 · cases he
 · split at he
   · cases he
   · split at he
     · cases he
     · rename_i _ _ h3
       show(putP zAa (s,x) false L).length≤4096;simp only at h1;cases hf:(Pm.find L s).isSome
       · rw[hf]at h1 h3
         simp at h3 h1;omega
       · rw[hf]at h1
         simp at h1;omega
theorem zT0{L:List Pr}{s:ByteArray}{x:Int}(he:setE L s x=0):zAq s.data.toList=true∧1≤x∧x≤1048576:=by
 unfold setE at he
 split at he
 · cases he
 · rename_i h1
   split at he
   · cases he
   · exact⟨by simpa using h1,by omega,by omega⟩
theorem Set_any(B:Nat)(w:World)(db lo hi wb:Nat)(v:Value)(base over:List Pr)(h:DictAt B w db lo hi wb v base over)(hf:over.length≤32)(s:ByteArray)(hs:s.size≤9223372036854775807)(x:Int):
 Calls Tryz.prog 33 #[.pointer (some ⟨db,0,none⟩),.string s,.int .i64 x] w fun e w'=>e = .returned (.tuple #[.int .i64 (setH (zAm zAa base over) s x),.int .i64 (setE (zAm zAa base over) s x)])∧MutSays B w w' db lo hi v (setL (zAm zAa base over) s x):=by
 obtain⟨L,hL⟩:∃L,zAm zAa base over=L:=⟨_,rfl⟩;have hall:zAl L=0:=by rw[←hL];exact h.ok.all
 have HWD:Hid (∀W,Below w.heap.size w W→Calls Tryz.prog 56 #[.string s] W fun e w'=>e = .returned (.bool (zAq s.data.toList))∧Below W.heap.size W w'):=fun W hW=>by
  refine(zCj s W (h.tabs.go (hW.mono h.size)).now hs).mono ?_;rintro e w' ⟨rfl,n,rfl⟩;exact⟨rfl,belowN (Below.refl _ _) n⟩
 have HWT:Hid (∀W,Below w.heap.size w W→Calls Tryz.prog 20 #[.pointer (some ⟨db,0,none⟩),.string s] W fun e w'=>e = .returned (.tuple #[.int .i64 ((Pm.find L s).getD 0),.bool (Pm.find L s).isSome])∧Below W.heap.size W w'):=fun W hW=>by
  have:=zS9 B W db lo hi wb v base over (h.below hW) s hs;rw[hL]at this;exact this
 have HLN:Hid (∀W,Below w.heap.size w W→Calls Tryz.prog 35 #[.pointer (some ⟨db,0,none⟩)] W fun e w'=>e = .returned (.int .i64 (L.length:Int))∧Below W.heap.size W w'):=fun W hW=>by
  have:=Len_any B W db lo hi wb v base over (h.below hW);rw[hL]at this;exact this
 have HCH:Hid (setE L s x=0→∀W,Below w.heap.size w W→Calls Tryz.prog 57 #[.pointer (some ⟨db,0,none⟩),.string s,.int .i64 x] W fun e w'=>e = .returned (.tuple #[])∧MutSays B w w' db lo hi v (put zAa L (s,x))):=fun he W hW=>by
  obtain⟨g1,g2,g3⟩:=zT0 he;have hc:=Dok.change base over (s,x);rw[if_neg (by show x≠0;omega),hL]at hc;refine(zSv B W db lo hi wb v base over (h.below hW) hf (s,x) g1 (by show 0≤x;omega) g3 (by rw[hc];exact set_len hall he)).mono ?_;rintro e w' ⟨rfl,hm⟩;rw[hc]at hm;obtain⟨lo',hi',wb',v',b',o',k1,k2,k3,k4,k5⟩:=hm.ex;exact⟨rfl,⟨lo',hi',wb',v',b',o',k1,k2,k3,k4.imp id (fun k j e=>Nat.le_trans hW.size (k j e)),k5.imp id (fun k=>Nat.le_trans hW.size k)⟩,(Upd.of_below hW).trans hm.upd (fun _ _ g=>g)⟩
 have HSM:Hid (∀w',Below w.heap.size w w'→MutSays B w w' db lo hi v L):=fun w' hb=>by
  have:=MutSays.same h hf hb;rw[hL]at this;exact this
 rw[hL];obtain⟨ln,hln⟩:∃ln,L.length=ln:=⟨_,rfl⟩;have hlb:ln≤4096:=by rw[←hln];exact(zAt hall).2.2
 have hpw:=put_same lessB_sto (zF1 hall) (p:=(s,x));have hgn:=fun(y:Int) (hy:Pm.find L s=some y)=>((zAt hall).1 _ (find_mem hy)).2.1
 clear h hf hs hL;cases hw:zAq s.data.toList with
 |false=>
  have hE:setE L s x=140:=by unfold setE;rw[if_pos hw]
  have hH:setH L s x=0:=by unfold setH;rw[hE];rfl
  have hLL:setL L s x=L:=by unfold setL;rw[hE];rfl
  rw[hE,hH,hLL];rw[hw]at HWD;clear hE hH hLL hw hall hpw hgn hlb hln;go_enter Tryz.func33,Tryz.ntmps33;go_wp2_with (go_at_call 56;refine(HWD.out _ (Below.refl _ _)).mono ?_;rintro e w1 ⟨rfl,hb1⟩);go_ret2;exact⟨rfl,HSM.out _ hb1⟩
 |true=>
  rw[hw]at HWD;by_cases hx:x<1∨1048576<x
  · have hE:setE L s x=141:=by unfold setE;rw[if_neg (by rw[hw];decide),if_pos hx]
    (have hH:setH L s x=0:=by unfold setH;rw[hE];rfl);(have hLL:setL L s x=L:=by unfold setL;rw[hE];rfl);rw[hE,hH,hLL];clear hE hH hLL hw hall hpw hgn hlb hln;by_cases hx1:x<1
    · clear hx
      go_enter Tryz.func33,Tryz.ntmps33;go_wp2_with (go_at_call 56;refine(HWD.out _ (Below.refl _ _)).mono ?_;rintro e w1 ⟨rfl,hb1⟩);go_ret2;exact⟨rfl,HSM.out _ hb1⟩
    · have hx2:1048576<x:=by omega
      clear hx;go_enter Tryz.func33,Tryz.ntmps33;go_wp2_with (go_at_call 56;refine(HWD.out _ (Below.refl _ _)).mono ?_;rintro e w1 ⟨rfl,hb1⟩);go_ret2;exact⟨rfl,HSM.out _ hb1⟩
  · have hx1:¬x<1:=by omega
    (have hx2:¬1048576<x:=by omega);cases hfd:Pm.find L s with
    |some y=>
     have hy:=hgn y hfd;(have hE:setE L s x=0:=by unfold setE;rw[if_neg (by rw[hw];decide),if_neg hx,if_neg (by rw[hfd];simp)]);(have hH:setH L s x=y:=by unfold setH;rw[if_pos hE,hfd];rfl);(have hLL:setL L s x=put zAa L (s,x):=by unfold setL;rw[if_pos hE]);have HC2:=HCH.out hE;have HC2:Hid (∀W,Below w.heap.size w W→Calls Tryz.prog 57 #[.pointer (some ⟨db,0,none⟩),.string s,.int .i64 x] W fun e w'=>e = .returned (.tuple #[])∧MutSays B w w' db lo hi v (put zAa L (s,x))):=HC2;rw[hE,hH,hLL];rw[hfd]at HWT;simp only[Option.getD_some,Option.isSome_some]at HWT;by_cases hxy:y=x
     · subst hxy
       have HPW:Hid (put zAa L (s,y)=L):=hpw hfd;clear hE hH hLL hw hall hpw hgn hlb hln hfd hx HCH HC2;go_enter Tryz.func33,Tryz.ntmps33
       go_wp2_with (first
        |(go_at_call 56;refine(HWD.out _ (Below.refl _ _)).mono ?_;rintro e w1 ⟨rfl,hb1⟩;have HB1:Hid (Below w.heap.size w w1):=hb1;clear hb1)
        |(go_at_call 20;refine(HWT.out _ HB1.out).mono ?_;rintro e w2 ⟨rfl,hb2⟩;have HB2:Hid (Below w.heap.size w w2):=HB1.out.trans (hb2.mono HB1.out.size);clear hb2))
       go_ret2;exact⟨rfl,by rw[HPW.out];exact HSM.out _ HB2.out⟩
     · have hne:(y==x)=false:=by simpa using hxy
       clear hE hH hLL hw hall hpw hgn hlb hln hfd hx HCH;go_enter Tryz.func33,Tryz.ntmps33
       go_wp2_with (first
        |(go_at_call 56;refine(HWD.out _ (Below.refl _ _)).mono ?_;rintro e w1 ⟨rfl,hb1⟩;have HB1:Hid (Below w.heap.size w w1):=hb1;clear hb1)
        |(go_at_call 20;refine(HWT.out _ HB1.out).mono ?_;rintro e w2 ⟨rfl,hb2⟩;have HB2:Hid (Below w.heap.size w w2):=HB1.out.trans (hb2.mono HB1.out.size);clear hb2)
        |(go_at_call 57;refine(HC2.out _ HB2.out).mono ?_;rintro e w3 ⟨rfl,hm3⟩;have HM3:Hid (MutSays B w w3 db lo hi v (put zAa L (s,x))):=hm3;clear hm3))
       go_ret2;exact⟨rfl,HM3.out⟩
    |none=>
     rw[hfd]at HWT;simp only[Option.getD_none,Option.isSome_none]at HWT;(have hne:(0==x)=false:=by simp;omega);by_cases hfull:4096≤ln
     · have hE:setE L s x=142:=by unfold setE;rw[if_neg (by rw[hw];decide),if_neg hx,if_pos ⟨by rw[hfd];rfl,by omega⟩]
       (have hH:setH L s x=0:=by unfold setH;rw[hE];rfl);(have hLL:setL L s x=L:=by unfold setL;rw[hE];rfl);rw[hE,hH,hLL];rw[hln]at HLN;(have hfz:(4096:Int)≤(ln:Int):=by omega);clear hE hH hLL hw hall hpw hgn hln hfd hx HCH;go_enter Tryz.func33,Tryz.ntmps33
       go_wp2_with (first
        |(go_at_call 56;refine(HWD.out _ (Below.refl _ _)).mono ?_;rintro e w1 ⟨rfl,hb1⟩;have HB1:Hid (Below w.heap.size w w1):=hb1;clear hb1)
        |(go_at_call 20;refine(HWT.out _ HB1.out).mono ?_;rintro e w2 ⟨rfl,hb2⟩;have HB2:Hid (Below w.heap.size w w2):=HB1.out.trans (hb2.mono HB1.out.size);clear hb2)
        |(go_at_call 35;refine(HLN.out _ HB2.out).mono ?_;rintro e w3 ⟨rfl,hb3⟩;have HB3:Hid (Below w.heap.size w w3):=HB2.out.trans (hb3.mono HB2.out.size);clear hb3))
       go_ret2;exact⟨rfl,HSM.out _ HB3.out⟩
     · have hE:setE L s x=0:=by unfold setE;rw[if_neg (by rw[hw];decide),if_neg hx,if_neg (by rw[hln];omega)]
       (have hH:setH L s x=0:=by unfold setH;rw[if_pos hE,hfd];rfl);(have hLL:setL L s x=put zAa L (s,x):=by unfold setL;rw[if_pos hE]);have HC2:=HCH.out hE;have HC2:Hid (∀W,Below w.heap.size w W→Calls Tryz.prog 57 #[.pointer (some ⟨db,0,none⟩),.string s,.int .i64 x] W fun e w'=>e = .returned (.tuple #[])∧MutSays B w w' db lo hi v (put zAa L (s,x))):=HC2;rw[hE,hH,hLL];rw[hln]at HLN;(have hfz:¬(4096:Int)≤(ln:Int):=by omega);clear hE hH hLL hw hall hpw hgn hln hfd hx HCH;go_enter Tryz.func33,Tryz.ntmps33
       go_wp2_with (first
        |(go_at_call 56;refine(HWD.out _ (Below.refl _ _)).mono ?_;rintro e w1 ⟨rfl,hb1⟩;have HB1:Hid (Below w.heap.size w w1):=hb1;clear hb1)
        |(go_at_call 20;refine(HWT.out _ HB1.out).mono ?_;rintro e w2 ⟨rfl,hb2⟩;have HB2:Hid (Below w.heap.size w w2):=HB1.out.trans (hb2.mono HB1.out.size);clear hb2)
        |(go_at_call 35;refine(HLN.out _ HB2.out).mono ?_;rintro e w3 ⟨rfl,hb3⟩;have HB3:Hid (Below w.heap.size w w3):=HB2.out.trans (hb3.mono HB2.out.size);clear hb3)
        |(go_at_call 57;refine(HC2.out _ HB3.out).mono ?_;rintro e w4 ⟨rfl,hm4⟩;have HM4:Hid (MutSays B w w4 db lo hi v (put zAa L (s,x))):=hm4;clear hm4))
       go_ret2;exact⟨rfl,HM4.out⟩
end Di
end
section
open Go.RowKit Go.Shelf Go.Lib Go.Sort Pm
namespace Mg
abbrev M:=Mq.Pr
def MOwn(B:Nat)(w:World)(v:Value)(l:List M):Prop:=GOwn 74 3 B w v (l.map cellsM)
theorem zIm{w:World}{blk off q:Nat}{d:Array M}{os:Array Obj}{k:Nat}(hk:k<w.heap.size)(hne:k≠blk):(sortWorldK Mq.encP 3 w blk off q d os).heap[k]?=w.heap[k]?:=by
 unfold sortWorldK grow putRowK putRow mapBlock;simp only;rw[Array.getElem?_append_left (by simpa[Sort.ahead]using hk),Array.getElem?_modify,if_neg (fun e=>hne e.symm)];rfl
theorem zJ9{w:World}{blk off q:Nat}{d:Array M}{os:Array Obj}{cur:Array Value}{T:TypeId}(h:w.heap[blk]?=some (.cells cur T (0,0))):∃cur',cur'.size=cur.size∧(sortWorldK Mq.encP 3 w blk off q d os).heap[blk]?=some (.cells cur' T (0,0)):=by
 have hk:=(Array.getElem?_eq_some_iff.1 h).1;unfold sortWorldK grow putRowK putRow mapBlock;simp only;rw[Array.getElem?_append_left (by simpa[Sort.ahead]using hk),Array.getElem?_modify,if_pos rfl];show ∃cur',_∧Option.map _ w.heap[blk]?=_;rw[h];exact⟨_,by simp[putCells],rfl⟩
theorem belowSW{w w':World}{blk off:Nat}{d:Array M}{B:Nat}(h:SWK Mq.encP 3 w blk off d w')(hB:B≤blk)(hBw:B≤w.heap.size):Below B w w':=by
 have hs:=h.le;obtain⟨q,os,rfl⟩:=h;exact⟨rfl,rfl,rfl,hs,fun k hk=>zIm (by omega) (by omega)⟩
theorem cells3(x:M)(j:Nat)(hj:j<3):∃u,(cellsM x)[j]?=some u∧(Mq.encP x)[j]?=some u:=by
 rcases(by omega:j=0∨j=1∨j=2)with rfl|rfl|rfl<;>exact⟨_,rfl,rfl⟩
theorem zT6{B:Nat}{w:World}{g cap:Nat}{l:List M}(h:MOwn B w (.slice (some ⟨g,0,none⟩) l.length cap) l)(hl:l.length<1125899906842624):Mq.RowP w g 0 l.length∧SWK Mq.encP 3 w g 0 l.toArray w∧B≤g:=by
 have hcell:=fun h0=>GOwn.cell h h0
 obtain⟨_,_,⟨e,_⟩|⟨g',cap',cur,e,h1,hh,h3,h4,h5,h6⟩⟩:=h
 · cases e
 · simp only[Value.slice.injEq,Option.some.injEq,Addr.mk.injEq]at e
   obtain⟨⟨rfl,_⟩,_,rfl⟩:=e;have hsz:=(Array.getElem?_eq_some_iff.1 hh).1;(have fz:∀o,w.frozen? ⟨g,o,none⟩=false:=fun o=>by simp[World.frozen?,hh]);have H:HoldsK Mq.encP 3 w g 0 l.toArray:=by
    intro t ht;(have ht2:t<l.length*3:=by simpa using ht);obtain⟨i,j,rfl,hj⟩:∃i j,t=i*3+j∧j<3:=⟨t/3,t%3,by omega,by omega⟩;(have hi:i<l.length:=by omega);obtain⟨g2,cap2,e2,_,_,_,hc⟩:=hcell (by rw[List.length_map];omega);simp only[Value.slice.injEq,Option.some.injEq,Addr.mk.injEq]at e2;obtain⟨⟨rfl,_⟩,_,rfl⟩:=e2;refine⟨?_,fz _⟩;rw[get_flatK _ _ _ _ (by simpa using ht2),show(i*3+j)/3=i by omega,show(i*3+j)%3=j by omega];(have el:l.toArray[i]! = l[i]:=by simp[hi]);rw[el];obtain⟨u,hu1,hu2⟩:=cells3 l[i] j hj;rw[Nat.zero_add,hc i j (cellsM l[i]) u (by simp[hi]) hu1];(have hd:(Mq.encP l[i])[j]! = u:=by simp[hu2]);rw[hd];rfl
   exact⟨⟨⟨l.toArray,by simp,⟨Mq.encP_k,Mq.encP_one,H,hsz⟩⟩,by omega⟩,SWK.start H,h1⟩
theorem zCy(l:List M):(l.map cellsM).flatten.length=l.length*3:=by
 induction l with
 |nil=>rfl
 |cons x r ih=>rw[List.map_cons,List.flatten_cons,List.length_append,ih,List.length_cons];show 3+_=_;omega
theorem zR0{B:Nat}{w w':World}{g cap:Nat}{l l':List M}(h:MOwn B w (.slice (some ⟨g,0,none⟩) l.length cap) l)(hl:l.length<1125899906842624)(hS:SWK Mq.encP 3 w g 0 l'.toArray w')(he:l'.length=l.length):MOwn B w' (.slice (some ⟨g,0,none⟩) l'.length cap) l':=by
 obtain⟨R,_,hB⟩:=zT6 h hl;have H:=R.holds hS (by simpa using he);obtain⟨_,_,⟨e,_⟩|⟨g',cap',cur,e,h1,hh,h3,h4,h5,h6⟩⟩:=h
 · cases e
 · simp only[Value.slice.injEq,Option.some.injEq,Addr.mk.injEq]at e
   obtain⟨⟨rfl,_⟩,_,rfl⟩:=e;obtain⟨qq,os,rfl⟩:=hS;obtain⟨cur',k1,k2⟩:=zJ9 (off:=0) (q:=qq) (d:=l'.toArray) (os:=os) hh;rw[List.length_map]at h3;refine⟨fun x hx=>?_,by rw[zCy,List.length_map],.inr ⟨g,cap,cur',by rw[List.length_map],h1,k2,by rw[List.length_map];omega,h4,by omega,?_⟩⟩
   · obtain⟨y,_,rfl⟩:=List.mem_map.1 hx
     exact cellsM_ok y
   · refine List.ext_getElem (by rw[List.length_take,zCy,List.length_map];simp;omega) fun t p q=>?_
     rw[zCy]at q;obtain⟨i,j,rfl,hj⟩:∃i j,t=i*3+j∧j<3:=⟨t/3,t%3,by omega,by omega⟩;(have hi:i<l'.length:=by omega);obtain⟨u,hu1,hu2⟩:=cells3 l'[i] j hj;have e1:=zHb (l'.map cellsM) (k:=3) (fun x hx=>by obtain⟨y,_,rfl⟩:=List.mem_map.1 hx;rfl) i j (cellsM l'[i]) u (by simp[hi]) hu1;have e2:(sortWorldK Mq.encP 3 w g 0 qq l'.toArray os).cell? ⟨g,0+(i*3+j),none⟩=some u:=by
      (have el:l'.toArray[i]! = l'[i]:=by simp[hi]);rcases(by omega:j=0∨j=1∨j=2)with rfl|rfl|rfl
      · have:=(Mq.cellP0 H (i:=i) (by simpa using hi)).1
        rw[el]at this;rw[←Option.some.inj (show some _=some u from hu2)];exact this
      · have:=(Mq.cellP1 H (i:=i) (by simpa using hi)).1
        rw[el]at this;rw[←Option.some.inj (show some _=some u from hu2),←Nat.add_assoc];exact this
      · have:=(Mq.cellP2 H (i:=i) (by simpa using hi)).1
        rw[el]at this;rw[←Option.some.inj (show some _=some u from hu2),←Nat.add_assoc];exact this
     have e3:(cur'.toList.take ((l'.map cellsM).length*3))[i*3+j]?=some u:=by
      rw[List.getElem?_take,if_pos (by rw[List.length_map];omega)];simp only[World.cell?,k2,Nat.zero_add]at e2;simpa using e2
     rw[←e1]at e3;rw[List.getElem?_eq_getElem p,List.getElem?_eq_getElem (by rw[zCy];exact q)]at e3;exact Option.some.inj e3
theorem zIs(w:World):Calls Tryz.prog 158 #[.slice none 0 0,.int .i64 0,.int .i64 0,.func (.func 81) #[] #[]] w fun e w'=>e = .returned (.tuple #[])∧w'=w:=by
 go_enter Tryz.func158,Tryz.ntmps158;go_wp2;refine wp_loop_rounds 1 ?_;rw[rounds_succ];go_wp2
 go_end0
 exact⟨rfl,rfl⟩
theorem zN6(w:World):Calls Tryz.prog 123 #[.slice none 0 0,.int .i64 0,.func (.func 81) #[] #[]] w fun e w'=>e = .returned (.tuple #[])∧w'=w:=by
 go_enter Tryz.func123,Tryz.ntmps123;go_wp2;refine wp_loop_rounds 1 ?_;rw[rounds_succ];go_wp2_with (go_at_call 158;refine(zIs _).mono ?_;rintro e w2 ⟨rfl,rfl⟩);refine wp_loop_rounds 1 ?_;rw[rounds_succ];go_wp2
 go_end0
 exact⟨rfl,rfl⟩
theorem zHo(w:World):Calls Tryz.prog 80 #[.slice none 0 0,.func (.func 81) #[] #[]] w fun e w'=>e = .returned (.tuple #[])∧w'=w:=by
 go_enter Tryz.func80,Tryz.ntmps80;go_wp2_with (go_at_call 123;refine(zN6 _).mono ?_;rintro e w2 ⟨rfl,rfl⟩)
 go_end0
 exact⟨rfl,rfl⟩
theorem zTx{B:Nat}{w:World}{v:Value}{l:List M}(h:MOwn B w v l)(hl:l.length<1125899906842624)(hB:B≤w.heap.size):
 Calls Tryz.prog 80 #[v,.func (.func 81) #[] #[]] w fun e w'=>e = .returned (.tuple #[])∧MOwn B w' v (zFt zAa l)∧Below B w w':=by
 have h':=h;obtain⟨_,_,⟨e,h0⟩|⟨g,cap,cur,rfl,h1,hh,h3,h4,h5,h6⟩⟩:=h
 · have hl0:l=[]:=by simpa using h0
   subst hl0;subst e;refine(zHo w).mono ?_;rintro e w' ⟨rfl,rfl⟩;exact⟨rfl,h',Below.refl _ _⟩
 · rw[List.length_map]at h'
   obtain⟨R,S,hBg⟩:=zT6 h' hl;rw[List.length_map];refine(Mq.sortStable_any g 0 l.length cap w w R hl l S rfl).mono ?_;rintro e w' ⟨rfl,l',hs,hS⟩;have hlen:=hs.len;have ho:=zR0 h' hl hS hlen;rw[hlen]at ho;rw[zI4 lessB_sto (zMs lessB_sto l) hs];exact⟨rfl,ho,belowSW hS hBg hB⟩
end Mg
end
