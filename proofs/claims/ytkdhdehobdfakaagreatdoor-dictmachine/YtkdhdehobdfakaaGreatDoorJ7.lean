import Derived.Test.YtkdhdehobdfakaaGreatDoorJ6
import Derived.Laws.AppendOwnNone
import Derived.Test.YtkdhdehobdfakaaGreatDoorJ3
set_option maxRecDepth 100000
set_option maxHeartbeats 8000000
namespace Go.Proofs.YtkdhdehobdfakaaGreatDoor
section
open Go.RowKit Go.Shelf Go.Lib Go.Sort Pm
theorem belowN{B:Nat}{a w:World}(h:Below B a w)(n:Nat):Below B a (w.drewN n):=⟨h.os,h.tape,h.output,h.size,h.block⟩
def zB2(l:List Pr):List Value:=l.flatMap encP
theorem zB7:∀l:List Pr,(zB2 l).length=l.length*2
 |[]=>rfl
 |x::r=>by rw[zB2,List.flatMap_cons,List.length_append,←zB2,zB7 r,encP_k,List.length_cons];omega
theorem zF9(a b:List Pr):zB2 (a++b)=zB2 a++zB2 b:=List.flatMap_append ..
theorem zPt(l:List Pr)(x:Pr):zB2 (l++[x])=zB2 l++encP x:=by rw[zF9];simp[zB2]
theorem zEy:∀(l:List Pr) (i j:Nat) (x:Pr),l[i]?=some x→j<2→(zB2 l)[i*2+j]?=(encP x)[j]?
 |y::r,0,j,x,h,hj=>by
  simp only[List.getElem?_cons_zero,Option.some.injEq]at h;subst h;rw[zB2,List.flatMap_cons,List.getElem?_append_left (by rw[encP_k];omega)];simp
 |y::r,i+1,j,x,h,hj=>by
  have ih:=zEy r i j x (by simpa using h) hj;rw[zB2,List.flatMap_cons,List.getElem?_append_right (by rw[encP_k];omega),encP_k];rw[show(i+1)*2+j-2=i*2+j by omega];exact ih
theorem zTs(l:List Pr):∀v∈zB2 l,v.oneCell'=true:=by
 intro v hv;obtain⟨x,_,hx⟩:=List.mem_flatMap.1 hv;exact encP_one x v hx
structure TwoAt(w:World)(g o:Nat)(x:Pr):Prop where
 c0:w.cell? ⟨g,o,none⟩=some (.string x.1)
 c1:w.cell? ⟨g,o+1,none⟩=some (.int .i64 x.2)
theorem TwoAt.below{w w':World}{g o:Nat}{x:Pr}(h:TwoAt w g o x){B:Nat}(hg:g<B)(hb:Below B w w'):TwoAt w' g o x:=
 ⟨(hb.cell (p:=⟨g,o,none⟩) hg).trans h.c0,(hb.cell (p:=⟨g,o+1,none⟩) hg).trans h.c1⟩
theorem TwoAt.lt{w:World}{g o:Nat}{x:Pr}(h:TwoAt w g o x):g<w.heap.size:=zAn h.c0
theorem TwoAt.load{w:World}{g o:Nat}{x:Pr}(h:TwoAt w g o x):loadP Tryz.prog (.pointer (some ⟨g,o,none⟩)) w = .ok (valP x) w:=loadP_at h.c0 h.c1
def PRow(w:World)(v:Value)(l:List Pr):Prop:=
 ∃ad cap,v = .slice ad l.length cap∧(0<l.length→∃g off,ad=some ⟨g,off,none⟩∧g<w.heap.size∧∀i x,l[i]?=some x→TwoAt w g (off+i*2) x)
theorem PRow.at{w:World}{ad:Option Addr}{n cap:Nat}{l:List Pr}(h:PRow w (.slice ad n cap) l)(h0:0<n):∃g off,ad=some ⟨g,off,none⟩∧g<w.heap.size∧∀i x,l[i]?=some x→TwoAt w g (off+i*2) x:=by
 obtain⟨ad',cap',e,hc⟩:=h;simp only[Value.slice.injEq]at e;obtain⟨rfl,h2,rfl⟩:=e;exact hc (by omega)
theorem PRow.nil(w:World):PRow w (.slice none 0 0) []:=⟨none,0,rfl,fun h=>by simp at h⟩
theorem PRow.below{w w':World}{v:Value}{l:List Pr}(h:PRow w v l)(hb:Below w.heap.size w w'):PRow w' v l:=by
 obtain⟨ad,cap,rfl,hc⟩:=h;refine⟨ad,cap,rfl,fun h0=>?_⟩;obtain⟨g,off,rfl,hg,hx⟩:=hc h0;exact⟨g,off,rfl,Nat.lt_of_lt_of_le hg hb.size,fun i x hi=>(hx i x hi).below hg hb⟩
def POwn(B:Nat)(w:World)(v:Value)(l:List Pr):Prop:=w.ownsRow B 75 2 v l.length (zB2 l)
theorem POwn.nil(B:Nat)(w:World):POwn B w (.slice none 0 0) []:=World.ownsRow_nil _ _ _ _
theorem POwn.below{B:Nat}{w w':World}{v:Value}{l:List Pr}(h:POwn B w v l)(hb:Below w.heap.size w w'):POwn B w' v l:=by
 obtain⟨hl,hn|⟨g,cap,cur,rfl,h1,hg,h2⟩⟩:=h
 · exact⟨hl,.inl hn⟩
 · exact⟨hl,.inr ⟨g,cap,cur,rfl,h1,(hb.block g (Array.getElem?_eq_some_iff.1 hg).1).trans hg,h2⟩⟩
theorem POwn.mono{B B':Nat}{w:World}{v:Value}{l:List Pr}(h:POwn B w v l)(hB:B'≤B):POwn B' w v l:=by
 obtain⟨hl,hn|⟨g,cap,cur,rfl,h1,h2⟩⟩:=h
 · exact⟨hl,.inl hn⟩
 · exact⟨hl,.inr ⟨g,cap,cur,rfl,by omega,h2⟩⟩
theorem POwn.shape{B:Nat}{w:World}{v:Value}{l:List Pr}(h:POwn B w v l):∃ad cap,v = .slice ad l.length cap:=by
 obtain⟨hl,⟨e,h0⟩|⟨g,cap,cur,rfl,_⟩⟩:=h
 · exact⟨none,0,by rw[e,h0]⟩
 · exact⟨_,cap,rfl⟩
theorem POwn.cells{w:World}{g:Nat}{cur:Array Value}{l:List Pr}(hh:w.heap[g]?=some (.cells cur 75 (0,0)))(h6:cur.toList.take (l.length*2)=zB2 l):∀i x,l[i]?=some x→TwoAt w g (0+i*2) x:=by
 intro i x hi;have hil:=(List.getElem?_eq_some_iff.1 hi).1;have cell:∀j,j<2→w.cell? ⟨g,i*2+j,none⟩=(encP x)[j]?:=fun j hj=>by
  have e:=zEy l i j x hi hj;rw[←h6,List.getElem?_take,if_pos (by omega)]at e;simp only[World.cell?,hh];simpa using e
 have c0:=cell 0 (by omega);have c1:=cell 1 (by omega);exact⟨by rw[Nat.zero_add];exact c0,by rw[Nat.zero_add];exact c1⟩
theorem POwn.row{B:Nat}{w:World}{v:Value}{l:List Pr}(h:POwn B w v l):PRow w v l:=by
 obtain⟨hl,⟨e,h0⟩|⟨g,cap,cur,rfl,h1,hh,h3,h4,h5,h6⟩⟩:=h
 · rw[List.eq_nil_of_length_eq_zero h0,e]
   exact PRow.nil w
 · exact⟨some ⟨g,0,none⟩,cap,rfl,fun _=>⟨g,0,rfl,(Array.getElem?_eq_some_iff.1 hh).1,POwn.cells hh h6⟩⟩
theorem POwn.of_cells{B:Nat}{w:World}{g cap:Nat}{cur:Array Value}{l:List Pr}(hB:B≤g)(hh:w.heap[g]?=some (.cells cur 75 (0,0)))(h3:l.length≤cap)(h4:cap≤maxLen)(h5:cur.size=cap*2)(hc:∀i x,l[i]?=some x→TwoAt w g (i*2) x):
 POwn B w (.slice (some ⟨g,0,none⟩) l.length cap) l:=by
 refine⟨zB7 l,.inr ⟨g,cap,cur,rfl,hB,hh,h3,h4,h5,?_⟩⟩;refine List.ext_getElem (by rw[List.length_take,zB7];simp;omega) fun t p q=>?_
 rw[zB7]at q;obtain⟨i,j,rfl,hj⟩:∃i j,t=i*2+j∧j<2:=⟨t/2,t%2,by omega,by omega⟩;have hi:i<l.length:=by omega
 have hx:l[i]?=some l[i]:=List.getElem?_eq_getElem hi;have e1:=zEy l i j l[i] hx hj;have e2:=hc i l[i] hx;have e3:(cur.toList)[i*2+j]?=(encP l[i])[j]?:=by
  rcases(by omega:j=0∨j=1)with rfl|rfl
  · have:=e2.c0
    simp only[World.cell?,hh]at this;simpa[encP]using this
  · have:=e2.c1
    simp only[World.cell?,hh]at this;simpa[encP]using this
 have e4:(cur.toList.take (l.length*2))[i*2+j]?=(zB2 l)[i*2+j]?:=by
  rw[List.getElem?_take,if_pos (by omega),e3,e1]
 rw[List.getElem?_eq_getElem p,List.getElem?_eq_getElem (by rw[zB7];exact q)]at e4;exact Option.some.inj e4
theorem zW2:(Tryz.prog.info? 75).map (fun i=>(i.zero,i.size,i.bytes))=some (some (.agg #[.string ByteArray.empty,.int .i64 0]),2,24):=by kernel_rfl
theorem ownBelow{B:Nat}{w w':World}{v:Value}{l:List Pr}(h:POwn B w v l)(hg:w.grownBy w' v.ownBlock)(hB:B≤w.heap.size):Below B w w':=
 (Below.refl B w).grown hg hB (fun k hk=>(World.ownsRow.lt h k hk).1)
theorem zT1{w:World}{B:Nat}{v s:Value}{l m:List Pr}(hown:POwn B w v l)(hr:PRow w s m)(hB:B≤w.heap.size)(h63:l.length+m.length≤2199023255552)(ty:TypeId):
 ∃v' w',(Builtin.append_ #[22,22] ty #[v,s]).run Tryz.prog w = .ok v' w'∧POwn B w' v' (l++m)∧w.grownBy w' v.ownBlock:=by
 obtain⟨i0,hi,hz0,hz1,hz2⟩:=info_parts zW2;obtain⟨ad,cap,rfl,hc⟩:=hr;rcases Nat.eq_zero_or_pos m.length with h0|h0
 · have hm:m=[]:=List.eq_nil_of_length_eq_zero h0
   subst hm;refine⟨v,w,?_,by simpa using hown,⟨rfl,rfl,rfl,Nat.le_refl _,fun _ _ _=>rfl⟩⟩;obtain⟨_,h2⟩:=hown;rcases h2 with⟨rfl,h0⟩|⟨g,cap,cur,rfl,hb,hh,h3,h4,h5,h6⟩
   · cases ad<;>go_simp
   · cases ad<;>go_simp
 · obtain⟨g,off,rfl,hg,hx⟩:=hc h0
   obtain⟨v',w',h1,h2,h3,_⟩:=run_append_own (P:=Tryz.prog) w B 22 ty 75 i0 _ 2 24 Tryz.underlying22 hi hz0 hz1 hz2 rfl (by decide) v l.length _ hown ⟨g,off,none⟩ m.length cap (zB2 m) (zB7 m) (fun j u hj=>by
    have hjl:=(List.getElem?_eq_some_iff.1 hj).1;rw[zB7]at hjl;obtain⟨i,r,rfl,hr⟩:∃i r,j=i*2+r∧r<2:=⟨j/2,j%2,by omega,by omega⟩;(have hi:i<m.length:=by omega);have e2:=hx i m[i] (List.getElem?_eq_getElem hi);rw[zEy m i r m[i] (List.getElem?_eq_getElem hi) hr]at hj;(have hadd:∀j,(⟨g,off,none⟩:Addr).add j=⟨g,off+j,none⟩:=fun j=>by unfold Addr.add;split<;>simp_all);rw[hadd,←Nat.add_assoc];rcases(by omega:r=0∨r=1)with rfl|rfl
    · simp only[encP,List.getElem?_cons_zero,Option.some.injEq]at hj
      rw[←hj];exact e2.c0
    · simp only[encP,List.getElem?_cons_succ,List.getElem?_cons_zero,Option.some.injEq]at hj
      rw[←hj];exact e2.c1) (zTs m) (by simp only[maxLen];omega) (by omega) hB
   refine⟨v',w',h1,?_,h3⟩;unfold POwn;rw[List.length_append,zF9];exact h2
theorem PRow.one{w:World}{g:Nat}{x:Pr}{c:Nat}(h:TwoAt w g 0 x):PRow w (.slice (some ⟨g,0,none⟩) 1 c) [x]:=
 ⟨_,c,rfl,fun _=>⟨g,0,rfl,h.lt,fun i y hi=>by
  cases i with
  |zero=>simp only[List.getElem?_cons_zero,Option.some.injEq]at hi;subst hi;simpa using h
  |succ i=>simp at hi⟩⟩
theorem zGc{w:World}{ops:Array Oper}{rest:List Oper}{o:Oper}{a:Act}{Q:Exit→Act→World→Prop}(hgd:o.guard=none)(s x:Operand)
 (ho:o.op = .call { callee := .builtin .append,args:=#[s,x],argTypes:=#[22,22] }) (B:Nat) (v u:Value) (l m:List Pr) (hs:a.eval s=v) (hown:POwn B w v l) (hx:a.eval x=u) (hr:PRow w u m) (h63:l.length+m.length≤2199023255552) (hB:B≤w.heap.size)
 (h:∀v' w',POwn B w' v' (l++m)→Below B w w'→w.grownBy w' v.ownBlock→wpList Tryz.prog ops Q rest (a.put o.dst v') w'):wpList Tryz.prog ops Q (o::rest) a w:=by
 obtain⟨v',w',h1,h2,h3⟩:=zT1 hown hr hB h63 o.type;refine wpList_plain hgd fun _ hK=>?_
 unfold Oper.wp execOp;simp only[ho,resolve,invoke,builtin,Sem.run_bind,Sem.run_pure,Result.andThen_ok,List.map_toArray,List.map_cons,List.map_nil,hs,hx,h1];exact hK _ _ (h v' w' h2 (ownBelow hown h3 hB) h3)
theorem TwoAt.new(W:World)(x:Pr)(T:TypeId):TwoAt (W.alloc (.cells #[.string x.1,.int .i64 x.2] T)) W.heap.size 0 x:=⟨by simp,by simp⟩
theorem zC3{W:World}{ops:Array Oper}{rest:List Oper}{o:Oper}{a:Act}{Q:Exit→Act→World→Prop}(hgd:o.guard=none)(s y:Operand)(x:Pr)(T:TypeId)
 (ho:o.op = .call { callee := .builtin .append,args:=#[s,y],argTypes:=#[22,22] }) (B nb c:Nat) (v:Value) (l:List Pr) (hs:a.eval s=v) (hown:POwn B W v l) (hx:a.eval y = .slice (some ⟨nb,0,none⟩) 1 c) (hnb:nb=W.heap.size) (h63:l.length<2199023255552) (hB:B≤W.heap.size)
 (h:∀v' w',POwn B w' v' (l++[x])→Below B W w'→wpList Tryz.prog ops Q rest (a.put o.dst v') w'):wpList Tryz.prog ops Q (o::rest) a (W.alloc (.cells #[.string x.1,.int .i64 x.2] T)):=by
 subst hnb;refine zGc hgd s y ho B v _ l [x] hs (hown.below ((Below.refl _ W).alloc (Nat.le_refl _) _)) hx (PRow.one (TwoAt.new W x T)) (by simp;omega) (by simp;omega) fun v' w' h1 h2 _=>h v' w' h1 (((Below.refl B W).alloc hB _).trans h2)
theorem zAb(w:World)(o:Obj):(w.alloc o).heap[w.heap.size]?=some o:=(MapKept.heap_alloc w o).1
theorem zKr{w:World}{blk off q:Nat}{d:Array Pr}{os:Array Obj}{k:Nat}(hk:k<w.heap.size)(hne:k≠blk):(sortWorldK encP 2 w blk off q d os).heap[k]?=w.heap[k]?:=by
 unfold sortWorldK grow putRowK putRow mapBlock;simp only;rw[Array.getElem?_append_left (by simpa[Sort.ahead]using hk),Array.getElem?_modify,if_neg (fun e=>hne e.symm)];rfl
theorem zMt{w:World}{blk off q:Nat}{d:Array Pr}{os:Array Obj}{cur:Array Value}{T:TypeId}(h:w.heap[blk]?=some (.cells cur T (0,0))):∃cur',cur'.size=cur.size∧(sortWorldK encP 2 w blk off q d os).heap[blk]?=some (.cells cur' T (0,0)):=by
 have hk:=(Array.getElem?_eq_some_iff.1 h).1;unfold sortWorldK grow putRowK putRow mapBlock;simp only;rw[Array.getElem?_append_left (by simpa[Sort.ahead]using hk),Array.getElem?_modify,if_pos rfl];show ∃cur',_∧Option.map _ w.heap[blk]?=_;rw[h];exact⟨_,by simp[putCells],rfl⟩
theorem SWK.below{w w':World}{blk off:Nat}{d:Array Pr}{B:Nat}(h:SWK encP 2 w blk off d w')(hB:B≤blk)(hBw:B≤w.heap.size):Below B w w':=by
 have hs:=h.le;obtain⟨q,os,rfl⟩:=h;exact⟨rfl,rfl,rfl,hs,fun k hk=>zKr (by omega) (by omega)⟩
theorem RowP.of_own{B:Nat}{w:World}{g cap:Nat}{l:List Pr}(h:POwn B w (.slice (some ⟨g,0,none⟩) l.length cap) l)(hl:l.length<1125899906842624):RowP w g 0 l.length∧SWK encP 2 w g 0 l.toArray w∧B≤g:=by
 obtain⟨_,⟨e,_⟩|⟨g',cap',cur,e,h1,hh,h3,h4,h5,h6⟩⟩:=h
 · cases e
 · simp only[Value.slice.injEq,Option.some.injEq,Addr.mk.injEq]at e
   obtain⟨⟨rfl,_⟩,_,rfl⟩:=e;have hc:=POwn.cells hh h6;have hsz:=(Array.getElem?_eq_some_iff.1 hh).1;(have fz:∀o,w.frozen? ⟨g,o,none⟩=false:=fun o=>by simp[World.frozen?,hh]);have H:HoldsK encP 2 w g 0 l.toArray:=by
    intro t ht;(have ht2:t<l.length*2:=by simpa using ht);obtain⟨i,j,rfl,hj⟩:∃i j,t=i*2+j∧j<2:=⟨t/2,t%2,by omega,by omega⟩;(have hi:i<l.length:=by omega);have e2:=hc i l[i] (List.getElem?_eq_getElem hi);refine⟨?_,fz _⟩;rw[get_flatK _ _ _ _ (by simpa using ht2),show(i*2+j)/2=i by omega,show(i*2+j)%2=j by omega];(have el:l.toArray[i]! = l[i]:=by simp[hi]);rw[el];rcases(by omega:j=0∨j=1)with rfl|rfl
    · have:=e2.c0
      rw[Nat.zero_add]at this ⊢;exact this
    · have:=e2.c1
      rw[Nat.zero_add]at this ⊢;exact this
   exact⟨⟨⟨l.toArray,by simp,⟨encP_k,encP_one,H,hsz⟩⟩,by omega⟩,SWK.start H,h1⟩
theorem POwn.sorted{B:Nat}{w w':World}{g cap:Nat}{l l':List Pr}(h:POwn B w (.slice (some ⟨g,0,none⟩) l.length cap) l)(hl:l.length<1125899906842624)(hS:SWK encP 2 w g 0 l'.toArray w')(he:l'.length=l.length):POwn B w' (.slice (some ⟨g,0,none⟩) l'.length cap) l':=by
 obtain⟨R,_,hB⟩:=RowP.of_own h hl;have H:=R.holds hS (by simpa using he);obtain⟨_,⟨e,_⟩|⟨g',cap',cur,e,h1,hh,h3,h4,h5,h6⟩⟩:=h
 · cases e
 · simp only[Value.slice.injEq,Option.some.injEq,Addr.mk.injEq]at e
   obtain⟨⟨rfl,_⟩,_,rfl⟩:=e;obtain⟨q,os,rfl⟩:=hS;obtain⟨cur',k1,k2⟩:=zMt (off:=0) (q:=q) (d:=l'.toArray) (os:=os) hh;(refine POwn.of_cells hB k2 (by omega) h4 (by omega) fun i x hi=>?_);have hil:=(List.getElem?_eq_some_iff.1 hi).1;(have ex:l'.toArray[i]! = x:=by simp[hi]);have c0:=(cellP0 H (i:=i) (by simpa using hil)).1;have c1:=(cellP1 H (i:=i) (by simpa using hil)).1;rw[ex,Nat.zero_add]at c0 c1;exact⟨c0,c1⟩
end
section
open Go.RowKit Nums Fm
def RunesAt(E:Nat)(w:World)(v:Value)(xs:List Int):Prop:=
 ∃ad cap,v = .slice ad xs.length cap∧(0<xs.length→∃g off,ad=some ⟨g,off,none⟩∧g<E∧∀i x,xs[i]?=some x→w.cell? ⟨g,off+i,none⟩=some (.int .i32 x))
theorem RunesAt.below{E:Nat}{w w':World}{v:Value}{xs:List Int}(h:RunesAt E w v xs)(hb:Below E w w'):RunesAt E w' v xs:=by
 obtain⟨ad,cap,rfl,hc⟩:=h;refine⟨ad,cap,rfl,fun h0=>?_⟩;obtain⟨g,off,rfl,hg,hx⟩:=hc h0;exact⟨g,off,rfl,hg,fun i x hi=>(hb.cell (p:=⟨g,off+i,none⟩) hg).trans (hx i x hi)⟩
theorem RunesAt.mono{E E':Nat}{w:World}{v:Value}{xs:List Int}(h:RunesAt E w v xs)(he:E≤E'):RunesAt E' w v xs:=by
 obtain⟨ad,cap,rfl,hc⟩:=h;refine⟨ad,cap,rfl,fun h0=>?_⟩;obtain⟨g,off,rfl,hg,hx⟩:=hc h0;exact⟨g,off,rfl,by omega,hx⟩
structure EntAt(E:Nat)(w:World)(g o:Nat)(v:Value)(e:En):Prop where
 c0:w.cell? ⟨g,o,none⟩=some v
 c1:w.cell? ⟨g,o+1,none⟩=some (.int .i64 e.2)
 rn:RunesAt E w v e.1
def ERow(E:Nat)(w:World)(v:Value)(l:List En):Prop:=
 ∃ad cap,v = .slice ad l.length cap∧l.length≤cap∧(0<l.length→∃g off,ad=some ⟨g,off,none⟩∧g<E∧∀i e,l[i]?=some e→∃u,EntAt E w g (off+i*2) u e)
theorem EntAt.below{E:Nat}{w w':World}{g o:Nat}{v:Value}{e:En}(h:EntAt E w g o v e)(hg:g<E)(hb:Below E w w'):EntAt E w' g o v e:=
 ⟨(hb.cell (p:=⟨g,o,none⟩) hg).trans h.c0,(hb.cell (p:=⟨g,o+1,none⟩) hg).trans h.c1,h.rn.below hb⟩
theorem ERow.below{E:Nat}{w w':World}{v:Value}{l:List En}(h:ERow E w v l)(hb:Below E w w'):ERow E w' v l:=by
 obtain⟨ad,cap,rfl,h1,hc⟩:=h;refine⟨ad,cap,rfl,h1,fun h0=>?_⟩;obtain⟨g,off,rfl,hg,hx⟩:=hc h0;refine⟨g,off,rfl,hg,fun i e hi=>?_⟩;obtain⟨u,hu⟩:=hx i e hi;exact⟨u,hu.below hg hb⟩
theorem ERow.at{E:Nat}{w:World}{ad:Option Addr}{n cap:Nat}{l:List En}(h:ERow E w (.slice ad n cap) l)(h0:0<n):∃g off,ad=some ⟨g,off,none⟩∧g<E∧n≤cap∧∀i e,l[i]?=some e→∃u,EntAt E w g (off+i*2) u e:=by
 obtain⟨ad',cap',e,h1,hc⟩:=h;simp only[Value.slice.injEq]at e;obtain⟨rfl,h2,rfl⟩:=e;obtain⟨g,off,h3,h4,h5⟩:=hc (by omega);exact⟨g,off,h3,h4,by omega,h5⟩
theorem ERow.form{E:Nat}{w:World}{v:Value}{l:List En}(h:ERow E w v l):∃ad cap,v = .slice ad l.length cap∧l.length≤cap:=by
 obtain⟨ad,cap,e,h1,_⟩:=h;exact⟨ad,cap,e,h1⟩
theorem zIc{l:List En}{k:Nat}{e:En}(h:l[k]?=some e)(m:Int):zAv m (l.take (k+1))=if e.2<zAv m (l.take k)then e.2 else zAv m (l.take k):=by
 have key:∀(l:List En) (m:Int) (e:En),zAv m (l++[e])=if e.2<zAv m l then e.2 else zAv m l:=by
  intro l
  induction l with
  |nil=>intro m e;rfl
  |cons x r ih=>intro m e;rw[List.cons_append,zAv,ih,zAv]
 rw[List.take_add_one,h];exact key _ _ _
theorem zIb(E:Nat)(w:World)(v:Value)(l:List En)(h:ERow E w v l)(h0:0<l.length)(hE:E≤w.heap.size)(hl:l.length≤1048576):
 Calls Tryz.prog 38 #[v] w fun e w'=>e = .returned (.int .i64 (least l))∧Below w.heap.size w w':=by
 obtain⟨ad,cap,rfl,hcap⟩:=h.form;have HR:Hid (ERow E w (.slice ad l.length cap) l):=h;obtain⟨n,hn⟩:∃n,l.length=n:=⟨_,rfl⟩;have HN:Hid (l.length=n):=hn;rw[hn]at HR hl h0 hcap;have h0z:(0:Int)<(n:Int):=by omega
 obtain⟨g,off,rfl,hg,_,hx⟩:=HR.out.at h0;obtain⟨e0,he0⟩:∃e0,l[0]?=some e0:=⟨l[0]'(by have:=HN.out;omega),List.getElem?_eq_getElem _⟩;obtain⟨u0,hu0⟩:=hx 0 e0 he0;obtain⟨a0,a1,_⟩:=hu0;rw[Nat.zero_mul,Nat.add_zero]at a0 a1;have HL:Hid (least l=zAv e0.2 l):=by
  show _=_;cases l with
  |nil=>simp at he0
  |cons x r=>simp only[List.getElem?_cons_zero,Option.some.injEq]at he0;subst he0;rfl
 clear h hx he0;rw[hn];clear hn;go_enter Tryz.func38,Tryz.ntmps38;go_wp2
 go_loopg [3,5,12] n (fun g s3 _ s12 wr=>∃(k:Nat),s12 = .int .i64 k∧k≤n∧n-k≤g∧s3 = .int .i64 (zAv e0.2 (l.take k))∧Hid (Below w.heap.size w wr))
 case atStart=>exact⟨0,rfl,Nat.zero_le _,by omega,by simp[zAv],Below.refl _ _⟩
 case round=>
  obtain⟨k,rfl,hk,hgm,rfl,HB⟩:=hrel;by_cases hlt:k<n
  · have hltz:(k:Int)<(n:Int):=by omega
    obtain⟨x,hx⟩:∃x,l[k]?=some x:=⟨l[k]'(by have:=HN.out;omega),List.getElem?_eq_getElem _⟩;have HRw:ERow E wr (.slice (some ⟨g,off,none⟩) n cap) l:=HR.out.below (HB.out.mono hE);obtain⟨g',off',e',hg',_,hcell⟩:=HRw.at (by omega);simp only[Option.some.injEq,Addr.mk.injEq]at e';obtain⟨rfl,rfl,_⟩:=e';obtain⟨u,hu⟩:=hcell k x hx;obtain⟨c0,c1,⟨ra,rc,rfl,_⟩⟩:=hu;have HS:Hid (zAv e0.2 (l.take (k+1))=if x.2<zAv e0.2 (l.take k)then x.2 else zAv e0.2 (l.take k)):=zIc hx _;(have HB2:Hid (∀o,Below w.heap.size w (wr.alloc o)):=fun o=>HB.out.alloc HB.out.size o);clear hcell hx HRw;generalize zAv e0.2 (l.take k)=m at *;go_wp2
    all_goals
     go_roundg (n-(k+1));(case measure=>omega);case rel=>exact⟨k+1,by go_num,by omega,Nat.le_refl _,by(first|(rw[HS.out,if_pos (by omega)];done)|(rw[HS.out,if_neg (by omega)];done)|(rw[HS.out];simp only[Int.min_def];split<;>split<;>first|rfl|(congr 1;omega))),HB2.out _⟩
  · have hltz:¬(k:Int)<(n:Int):=by omega
    (have HE:Hid (zAv e0.2 (l.take k)=zAv e0.2 l):=by show _=_;rw[List.take_of_length_le (by have:=HN.out;omega)]);go_wp2;go_ret;exact⟨by rw[HE.out,HL.out];rfl,HB.out⟩
theorem RunesAt.get{E:Nat}{w:World}{ad:Option Addr}{n cap:Nat}{xs:List Int}(h:RunesAt E w (.slice ad n cap) xs){k:Nat}(hk:k<xs.length):∃g off,ad=some ⟨g,off,none⟩∧n=xs.length∧w.cell? ⟨g,off+k,none⟩=some (.int .i32 ((xs.drop k).headD 0)):=by
 obtain⟨ad',cap',e,hc⟩:=h;simp only[Value.slice.injEq]at e;obtain⟨rfl,rfl,rfl⟩:=e;obtain⟨g,off,rfl,_,hx⟩:=hc (by omega);refine⟨g,off,rfl,rfl,?_⟩;have:=hx k xs[k] (List.getElem?_eq_getElem hk);rw[this,List.headD_eq_head?_getD,List.head?_drop,List.getElem?_eq_getElem hk];rfl
theorem zWh{c:Int}{k j:Nat}{l:List En}{e:En}(h:l[j]?=some e):lead c (cut k (l.drop j))=if hd (e.1.drop k,e.2)=c then lead c (cut k (l.drop (j+1)))+1 else 0:=by
 obtain⟨hj,rfl⟩:=List.getElem?_eq_some_iff.1 h;rw[List.drop_eq_getElem_cons hj,zC2,lead]
theorem zYm(E:Nat)(w:World)(v:Value)(l:List En)(k:Nat)(e0:En)(he0:l[0]?=some e0)(h:ERow E w v l)(hl:l.length≤1048576)(hlen:∀e∈l,k<e.1.length):
 Calls Tryz.prog 74 #[v,.int .i64 k] w fun e w'=>e = .returned (.int .i64 ((1+lead (hd (e0.1.drop k,e0.2)) (cut k (l.drop 1)):Nat):Int))∧∃q,w'=w.drewN q:=by
 obtain⟨ad,cap,rfl,hcap⟩:=h.form;have HR:Hid (ERow E w (.slice ad l.length cap) l):=h;obtain⟨n,hn⟩:∃n,l.length=n:=⟨_,rfl⟩;have HN:Hid (l.length=n):=hn;have HLEN:Hid (∀e∈l,k<e.1.length):=hlen;have h0:0<n:=by rw[←hn];exact(List.getElem?_eq_some_iff.1 he0).1
 rw[hn]at HR hl hcap;have h0z:(0:Int)<(n:Int):=by omega
 obtain⟨c,hc⟩:∃c,hd (e0.1.drop k,e0.2)=c:=⟨_,rfl⟩;obtain⟨A,hA⟩:∃A,1+lead c (cut k (l.drop 1))=A:=⟨_,rfl⟩;have HA:Hid (1+lead c (cut k (l.drop 1))=A):=hA;have HC:Hid (hd (e0.1.drop k,e0.2)=c):=hc;obtain⟨g,off,rfl,hg,_,hx⟩:=HR.out.at h0;obtain⟨u0,hu0⟩:=hx 0 e0 he0;obtain⟨a0,_,hr0⟩:=hu0;obtain⟨ra0,rc0,rfl,_⟩:=id hr0;have hk0:k<e0.1.length:=hlen e0 (List.mem_of_getElem? he0);obtain⟨g0,o0,rfl,_,d0⟩:=hr0.get hk0;rw[Nat.zero_mul,Nat.add_zero]at a0;obtain⟨n0,hn0⟩:∃n0,e0.1.length=n0:=⟨_,rfl⟩;rw[hn0]at a0 hk0;have hk0z:(k:Int)<(n0:Int):=by omega
 have d0':w.cell? ⟨g0,o0+k,none⟩=some (.int .i32 c):=by rw[d0,←hc];rfl
 rw[hn,hc,hA];clear h he0 hn hA hc d0 hr0 hn0 hlen;go_enter Tryz.func74,Tryz.ntmps74;go_wp2
 go_loopg [5] n (fun gm s5 wr=>∃(j:Nat),s5 = .int .i64 j∧j≤n∧1≤j∧n-j≤gm∧Hid (j+lead c (cut k (l.drop j))=A)∧Hid (∃q,wr=w.drewN q))
 case atStart=>exact⟨1,rfl,by omega,by omega,by omega,HA,0,rfl⟩
 case round=>
  obtain⟨j,rfl,hj,hj1,hgm,HJ,HW⟩:=hrel;obtain⟨q,rfl⟩:=HW.out;by_cases hlt:j<n
  · have hltz:(j:Int)<(n:Int):=by omega
    obtain⟨x,hxj⟩:∃x,l[j]?=some x:=⟨l[j]'(by have:=HN.out;omega),List.getElem?_eq_getElem _⟩;obtain⟨u,hu⟩:=hx j x hxj;obtain⟨c0,_,hr⟩:=hu;obtain⟨ra,rc,rfl,_⟩:=id hr;have hkx:k<x.1.length:=HLEN.out x (List.mem_of_getElem? hxj);obtain⟨g1,o1,rfl,_,d1⟩:=hr.get hkx;obtain⟨n1,hn1⟩:∃n1,x.1.length=n1:=⟨_,rfl⟩;rw[hn1]at c0 hkx;(have hkxz:(k:Int)<(n1:Int):=by omega);have HST:=zWh (c:=c) (k:=k) hxj;obtain⟨cx,hcx⟩:∃cx,hd (x.1.drop k,x.2)=cx:=⟨_,rfl⟩;(have d1':w.cell? ⟨g1,o1+k,none⟩=some (.int .i32 cx):=by rw[d1,←hcx];rfl);rw[hcx]at HST;clear hxj hr d1 hn1 hcx;by_cases hcc:cx=c
    · have hcb:(cx==c)=true:=beq_iff_eq.2 hcc
      (have HJ2:Hid (j+1+lead c (cut k (l.drop (j+1)))=A):=by show _=_;have:=HJ.out;rw[HST,if_pos hcc]at this;omega);clear HST hcc hx;(go_upto_region 2 with fail);go_quiet (fail);go_wp2;go_roundg (n-(j+1));(case measure=>omega);case rel=>exact⟨j+1,by go_num,by omega,by omega,Nat.le_refl _,HJ2,⟨_,rfl⟩⟩
    · have hcb:(cx==c)=false:=beq_eq_false_iff_ne.2 hcc
      (have HJ2:Hid (j=A):=by show _=_;have:=HJ.out;rw[HST,if_neg hcc]at this;omega);clear HST hcc hx;(go_upto_region 2 with fail);go_quiet (fail);go_wp2;go_ret;exact⟨by rw[HJ2.out];rfl,_,rfl⟩
  · have hltz:¬(j:Int)<(n:Int):=by omega
    have HJ2:Hid (j=A):=by
     show _=_;have:=HJ.out;rw[List.drop_eq_nil_of_le (by have:=HN.out;omega)]at this;simpa[cut,lead]using this
    clear hx;(go_upto_region 2 with fail);go_quiet (fail);go_wp2;go_ret;exact⟨by rw[HJ2.out];rfl,_,rfl⟩
end
