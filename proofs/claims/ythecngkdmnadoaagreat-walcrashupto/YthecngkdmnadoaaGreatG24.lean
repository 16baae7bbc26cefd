/- Texts that were written apart, joined. -/
import Derived.Test.YthecngkdmnadoaaGreatG23
import Derived.Laws.AppendOwnNone
import Derived.Laws.IdiomCopy
import Derived.ArgAppend
import Derived.Deep.RegionLaw
import Derived.Test.YthecngkdmnadoaaGreatDrawn
import Derived.Deep.Cut
import Derived.Test.YthecngkdmnadoaaGreatFree
namespace Go.Proofs.YthecngkdmnadoaaGreat
open Go.RowKit
set_option maxRecDepth 100000
abbrev Pl:=Nat×Nat
def encQ(x:Pl):List Value:=[.int .u64 (x.1:Int),.int .u64 (x.2:Int)]
theorem encQ_k(x:Pl):(encQ x).length=2:=rfl
theorem encQ_one(x:Pl):∀v∈encQ x,v.oneCell'=true:=by intro v hv;simp[encQ]at hv;rcases hv with rfl|rfl<;>rfl
theorem belowN{B:Nat}{a w:World}(h:Below B a w)(n:Nat):Below B a (w.drewN n):=⟨h.os,h.tape,h.output,h.size,h.block⟩
def cellsQ(l:List Pl):List Value:=l.flatMap encQ
theorem cellsQ_len:∀l:List Pl,(cellsQ l).length=l.length*2
 |[]=>rfl
 |x::r=>by rw[cellsQ,List.flatMap_cons,List.length_append,←cellsQ,cellsQ_len r,encQ_k,List.length_cons];omega
theorem cellsQ_append(a b:List Pl):cellsQ (a++b)=cellsQ a++cellsQ b:=List.flatMap_append ..
theorem cellsQ_snoc(l:List Pl)(x:Pl):cellsQ (l++[x])=cellsQ l++encQ x:=by rw[cellsQ_append];simp[cellsQ]
theorem cellsQ_get:∀(l:List Pl) (i j:Nat) (x:Pl),l[i]?=some x→j<2→(cellsQ l)[i*2+j]?=(encQ x)[j]?
 |y::r,0,j,x,h,hj=>by
  simp only[List.getElem?_cons_zero,Option.some.injEq]at h;subst h;rw[cellsQ,List.flatMap_cons,List.getElem?_append_left (by rw[encQ_k];omega)];simp
 |y::r,i+1,j,x,h,hj=>by
  have ih:=cellsQ_get r i j x (by simpa using h) hj;rw[cellsQ,List.flatMap_cons,List.getElem?_append_right (by rw[encQ_k];omega),encQ_k];rw[show(i+1)*2+j-2=i*2+j by omega];exact ih
theorem cellsQ_one(l:List Pl):∀v∈cellsQ l,v.oneCell'=true:=by
 intro v hv;obtain⟨x,_,hx⟩:=List.mem_flatMap.1 hv;exact encQ_one x v hx
structure TwoQ(w:World)(g o:Nat)(x:Pl):Prop where
 c0:w.cell? ⟨g,o,none⟩=some (.int .u64 (x.1:Int))
 c1:w.cell? ⟨g,o+1,none⟩=some (.int .u64 (x.2:Int))
theorem TwoQ.below{w w':World}{g o:Nat}{x:Pl}(h:TwoQ w g o x){B:Nat}(hg:g<B)(hb:Below B w w'):TwoQ w' g o x:=
 ⟨(hb.cell (p:=⟨g,o,none⟩) hg).trans h.c0,(hb.cell (p:=⟨g,o+1,none⟩) hg).trans h.c1⟩
theorem TwoQ.lt{w:World}{g o:Nat}{x:Pl}(h:TwoQ w g o x):g<w.heap.size:=lt_of_cell h.c0
def QRow(w:World)(v:Value)(l:List Pl):Prop:=
 ∃ad cap,v = .slice ad l.length cap∧(0<l.length→∃g off,ad=some ⟨g,off,none⟩∧g<w.heap.size∧∀i x,l[i]?=some x→TwoQ w g (off+i*2) x)
theorem QRow.at{w:World}{ad:Option Addr}{n cap:Nat}{l:List Pl}(h:QRow w (.slice ad n cap) l)(h0:0<n):∃g off,ad=some ⟨g,off,none⟩∧g<w.heap.size∧∀i x,l[i]?=some x→TwoQ w g (off+i*2) x:=by
 obtain⟨ad',cap',e,hc⟩:=h;simp only[Value.slice.injEq]at e;obtain⟨rfl,h2,rfl⟩:=e;exact hc (by omega)
theorem QRow.nil(w:World):QRow w (.slice none 0 0) []:=⟨none,0,rfl,fun h=>by simp at h⟩
theorem QRow.below{w w':World}{v:Value}{l:List Pl}(h:QRow w v l)(hb:Below w.heap.size w w'):QRow w' v l:=by
 obtain⟨ad,cap,rfl,hc⟩:=h;refine⟨ad,cap,rfl,fun h0=>?_⟩;obtain⟨g,off,rfl,hg,hx⟩:=hc h0;exact⟨g,off,rfl,Nat.lt_of_lt_of_le hg hb.size,fun i x hi=>(hx i x hi).below hg hb⟩
def QOwn(B:Nat)(w:World)(v:Value)(l:List Pl):Prop:=w.ownsRow B 115 2 v l.length (cellsQ l)
theorem QOwn.nil(B:Nat)(w:World):QOwn B w (.slice none 0 0) []:=World.ownsRow_nil _ _ _ _
theorem QOwn.below{B:Nat}{w w':World}{v:Value}{l:List Pl}(h:QOwn B w v l)(hb:Below w.heap.size w w'):QOwn B w' v l:=by
 obtain⟨hl,hn|⟨g,cap,cur,rfl,h1,hg,h2⟩⟩:=h
 · exact⟨hl,.inl hn⟩
 · exact⟨hl,.inr ⟨g,cap,cur,rfl,h1,(hb.block g (Array.getElem?_eq_some_iff.1 hg).1).trans hg,h2⟩⟩
theorem QOwn.mono{B B':Nat}{w:World}{v:Value}{l:List Pl}(h:QOwn B w v l)(hB:B'≤B):QOwn B' w v l:=by
 obtain⟨hl,hn|⟨g,cap,cur,rfl,h1,h2⟩⟩:=h
 · exact⟨hl,.inl hn⟩
 · exact⟨hl,.inr ⟨g,cap,cur,rfl,by omega,h2⟩⟩
theorem QOwn.shape{B:Nat}{w:World}{v:Value}{l:List Pl}(h:QOwn B w v l):∃ad cap,v = .slice ad l.length cap:=by
 obtain⟨hl,⟨e,h0⟩|⟨g,cap,cur,rfl,_⟩⟩:=h
 · exact⟨none,0,by rw[e,h0]⟩
 · exact⟨_,cap,rfl⟩
theorem QOwn.cells{w:World}{g:Nat}{cur:Array Value}{l:List Pl}(hh:w.heap[g]?=some (.cells cur 115 (0,0)))(h6:cur.toList.take (l.length*2)=cellsQ l):∀i x,l[i]?=some x→TwoQ w g (0+i*2) x:=by
 intro i x hi;have hil:=(List.getElem?_eq_some_iff.1 hi).1;have cell:∀j,j<2→w.cell? ⟨g,i*2+j,none⟩=(encQ x)[j]?:=fun j hj=>by
  have e:=cellsQ_get l i j x hi hj;rw[←h6,List.getElem?_take,if_pos (by omega)]at e;simp only[World.cell?,hh];simpa using e
 have c0:=cell 0 (by omega);have c1:=cell 1 (by omega);exact⟨by rw[Nat.zero_add];exact c0,by rw[Nat.zero_add];exact c1⟩
theorem QOwn.row{B:Nat}{w:World}{v:Value}{l:List Pl}(h:QOwn B w v l):QRow w v l:=by
 obtain⟨hl,⟨e,h0⟩|⟨g,cap,cur,rfl,h1,hh,h3,h4,h5,h6⟩⟩:=h
 · rw[List.eq_nil_of_length_eq_zero h0,e]
   exact QRow.nil w
 · exact⟨some ⟨g,0,none⟩,cap,rfl,fun _=>⟨g,0,rfl,(Array.getElem?_eq_some_iff.1 hh).1,QOwn.cells hh h6⟩⟩
theorem QOwn.of_cells{B:Nat}{w:World}{g cap:Nat}{cur:Array Value}{l:List Pl}(hB:B≤g)(hh:w.heap[g]?=some (.cells cur 115 (0,0)))(h3:l.length≤cap)(h4:cap≤maxLen)(h5:cur.size=cap*2)(hc:∀i x,l[i]?=some x→TwoQ w g (i*2) x):
 QOwn B w (.slice (some ⟨g,0,none⟩) l.length cap) l:=by
 refine⟨cellsQ_len l,.inr ⟨g,cap,cur,rfl,hB,hh,h3,h4,h5,?_⟩⟩;refine List.ext_getElem (by rw[List.length_take,cellsQ_len];simp;omega) fun t p q=>?_
 rw[cellsQ_len]at q;obtain⟨i,j,rfl,hj⟩:∃i j,t=i*2+j∧j<2:=⟨t/2,t%2,by omega,by omega⟩;have hi:i<l.length:=by omega
 have hx:l[i]?=some l[i]:=List.getElem?_eq_getElem hi;have e1:=cellsQ_get l i j l[i] hx hj;have e2:=hc i l[i] hx;have e3:(cur.toList)[i*2+j]?=(encQ l[i])[j]?:=by
  rcases(by omega:j=0∨j=1)with rfl|rfl
  · have:=e2.c0
    simp only[World.cell?,hh]at this;simpa[encQ]using this
  · have:=e2.c1
    simp only[World.cell?,hh]at this;simpa[encQ]using this
 have e4:(cur.toList.take (l.length*2))[i*2+j]?=(cellsQ l)[i*2+j]?:=by
  rw[List.getElem?_take,if_pos (by omega),e3,e1]
 rw[List.getElem?_eq_getElem p,List.getElem?_eq_getElem (by rw[cellsQ_len];exact q)]at e4;exact Option.some.inj e4
theorem info_Q:(Tryz.prog.info? 115).map (fun i=>(i.zero,i.size,i.bytes))=some (some (.agg #[.int .u64 0,.int .u64 0]),2,16):=by kernel_rfl
theorem ownBelowQ{B:Nat}{w w':World}{v:Value}{l:List Pl}(h:QOwn B w v l)(hg:w.grownBy w' v.ownBlock)(hB:B≤w.heap.size):Below B w w':=
 (Below.refl B w).grown hg hB (fun k hk=>(World.ownsRow.lt h k hk).1)
theorem QRow.grown{w w':World}{v u:Value}{l m:List Pl}{B:Nat}(h:QRow w v l)(ho:QOwn B w u m)(hg:w.grownBy w' u.ownBlock)(hv:∀ad cap,v = .slice (some ad) l.length cap→0<l.length→ad.block<B)(hB:B≤w.heap.size):QRow w' v l:=by
 have hb:=ownBelowQ ho hg hB;obtain⟨ad,cap,rfl,hc⟩:=h;refine⟨ad,cap,rfl,fun h0=>?_⟩;obtain⟨g,off,rfl,hgl,hx⟩:=hc h0;exact⟨g,off,rfl,Nat.lt_of_lt_of_le hgl hb.size,fun i x hi=>(hx i x hi).below (hv _ _ rfl h0) hb⟩
theorem append_qrun{w:World}{B:Nat}{v s:Value}{l m:List Pl}(hown:QOwn B w v l)(hr:QRow w s m)(hB:B≤w.heap.size)(h63:l.length+m.length≤2199023255552)(ty:TypeId):
 ∃v' w',(Builtin.append_ #[81,81] ty #[v,s]).run Tryz.prog w = .ok v' w'∧QOwn B w' v' (l++m)∧w.grownBy w' v.ownBlock:=by
 obtain⟨i0,hi,hz0,hz1,hz2⟩:=info_parts info_Q;obtain⟨ad,cap,rfl,hc⟩:=hr;rcases Nat.eq_zero_or_pos m.length with h0|h0
 · have hm:m=[]:=List.eq_nil_of_length_eq_zero h0
   subst hm;refine⟨v,w,?_,by simpa using hown,⟨rfl,rfl,rfl,Nat.le_refl _,fun _ _ _=>rfl⟩⟩;obtain⟨_,h2⟩:=hown;rcases h2 with⟨rfl,h0⟩|⟨g,cap,cur,rfl,hb,hh,h3,h4,h5,h6⟩
   · cases ad<;>go_simp
   · cases ad<;>go_simp
 · obtain⟨g,off,rfl,hg,hx⟩:=hc h0
   obtain⟨v',w',h1,h2,h3,_⟩:=run_append_own (P:=Tryz.prog) w B 81 ty 115 i0 _ 2 16 Tryz.underlying81 hi hz0 hz1 hz2 rfl (by decide) v l.length _ hown ⟨g,off,none⟩ m.length cap (cellsQ m) (cellsQ_len m) (fun j u hj=>by
    have hjl:=(List.getElem?_eq_some_iff.1 hj).1;rw[cellsQ_len]at hjl;obtain⟨i,r,rfl,hr⟩:∃i r,j=i*2+r∧r<2:=⟨j/2,j%2,by omega,by omega⟩;(have hi:i<m.length:=by omega);have e2:=hx i m[i] (List.getElem?_eq_getElem hi);rw[cellsQ_get m i r m[i] (List.getElem?_eq_getElem hi) hr]at hj;(have hadd:∀j,(⟨g,off,none⟩:Addr).add j=⟨g,off+j,none⟩:=fun j=>by unfold Addr.add;split<;>simp_all);rw[hadd,←Nat.add_assoc];rcases(by omega:r=0∨r=1)with rfl|rfl
    · simp only[encQ,List.getElem?_cons_zero,Option.some.injEq]at hj
      rw[←hj];exact e2.c0
    · simp only[encQ,List.getElem?_cons_succ,List.getElem?_cons_zero,Option.some.injEq]at hj
      rw[←hj];exact e2.c1) (cellsQ_one m) (by simp only[maxLen];omega) (by omega) hB
   refine⟨v',w',h1,?_,h3⟩;unfold QOwn;rw[List.length_append,cellsQ_append];exact h2
theorem QRow.one{w:World}{g:Nat}{x:Pl}{c:Nat}(h:TwoQ w g 0 x):QRow w (.slice (some ⟨g,0,none⟩) 1 c) [x]:=
 ⟨_,c,rfl,fun _=>⟨g,0,rfl,h.lt,fun i y hi=>by
  cases i with
  |zero=>simp only[List.getElem?_cons_zero,Option.some.injEq]at hi;subst hi;simpa using h
  |succ i=>simp at hi⟩⟩
theorem append_qs{w:World}{ops:Array Oper}{rest:List Oper}{o:Oper}{a:Act}{Q:Exit→Act→World→Prop}(hgd:o.guard=none)(s x:Operand)
 (ho:o.op = .call { callee := .builtin .append,args:=#[s,x],argTypes:=#[81,81] }) (B:Nat) (v u:Value) (l m:List Pl) (hs:a.eval s=v) (hown:QOwn B w v l) (hx:a.eval x=u) (hr:QRow w u m) (h63:l.length+m.length≤2199023255552) (hB:B≤w.heap.size)
 (h:∀v' w',QOwn B w' v' (l++m)→Below B w w'→w.grownBy w' v.ownBlock→wpList Tryz.prog ops Q rest (a.put o.dst v') w'):wpList Tryz.prog ops Q (o::rest) a w:=by
 obtain⟨v',w',h1,h2,h3⟩:=append_qrun hown hr hB h63 o.type;refine wpList_plain hgd fun _ hK=>?_
 unfold Oper.wp execOp;simp only[ho,resolve,invoke,builtin,Sem.run_bind,Sem.run_pure,Result.andThen_ok,List.map_toArray,List.map_cons,List.map_nil,hs,hx,h1];exact hK _ _ (h v' w' h2 (ownBelowQ hown h3 hB) h3)
theorem TwoQ.new(W:World)(x:Pl)(T:TypeId):TwoQ (W.alloc (.cells #[.int .u64 (x.1:Int),.int .u64 (x.2:Int)] T)) W.heap.size 0 x:=⟨by simp,by simp⟩
theorem append_q{W:World}{ops:Array Oper}{rest:List Oper}{o:Oper}{a:Act}{Q:Exit→Act→World→Prop}(hgd:o.guard=none)(s y:Operand)(x:Pl)(T:TypeId)
 (ho:o.op = .call { callee := .builtin .append,args:=#[s,y],argTypes:=#[81,81] }) (B nb c:Nat) (v:Value) (l:List Pl) (hs:a.eval s=v) (hown:QOwn B W v l) (hx:a.eval y = .slice (some ⟨nb,0,none⟩) 1 c) (hnb:nb=W.heap.size) (h63:l.length<2199023255552) (hB:B≤W.heap.size)
 (h:∀v' w',QOwn B w' v' (l++[x])→Below B W w'→wpList Tryz.prog ops Q rest (a.put o.dst v') w'):wpList Tryz.prog ops Q (o::rest) a (W.alloc (.cells #[.int .u64 (x.1:Int),.int .u64 (x.2:Int)] T)):=by
 subst hnb;refine append_qs hgd s y ho B v _ l [x] hs (hown.below ((Below.refl _ W).alloc (Nat.le_refl _) _)) hx (QRow.one (TwoQ.new W x T)) (by simp;omega) (by simp;omega) fun v' w' h1 h2 _=>h v' w' h1 (((Below.refl B W).alloc hB _).trans h2)
theorem alloc_newQ(w:World)(o:Obj):(w.alloc o).heap[w.heap.size]?=some o:=(MapKept.heap_alloc w o).1
theorem setCells_heap{g:Nat}{T:TypeId}{f:Nat×Nat}:∀(vs:List Value) (o:Nat) (w:World) (cur:Array Value),w.heap[g]?=some (.cells cur T f)→∃cur',cur'.size=cur.size∧(w.setCells g o vs).heap[g]?=some (.cells cur' T f)
 |[],_,_,cur,h=>⟨cur,rfl,h⟩
 |v::r,o,w,cur,h=>by
  have h2:(w.setCell ⟨g,o,none⟩ v).heap[g]?=some (.cells (cur.setIfInBounds o v) T f):=by simp[World.setCell,Array.getElem?_modify,h]
  obtain⟨cur',h3,h4⟩:=setCells_heap r (o+1) _ _ h2;exact⟨cur',by rw[h3];simp,h4⟩
theorem setCells_below{g B:Nat}(hB:B≤g):∀(vs:List Value) (o:Nat) (a w:World),Below B a w→Below B a (w.setCells g o vs)
 |[],_,_,_,h=>h
 |v::r,o,a,_,h=>setCells_below hB r (o+1) a _ (h.setCell (p:=⟨g,o,none⟩) hB v)
theorem QOwn.block{B:Nat}{w:World}{g cap n:Nat}{l:List Pl}(h:QOwn B w (.slice (some ⟨g,0,none⟩) n cap) l):∃cur,B≤g∧w.heap[g]?=some (.cells cur 115 (0,0))∧n=l.length∧n≤cap∧cap≤maxLen∧cur.size=cap*2∧(∀i x,l[i]?=some x→TwoQ w g (i*2) x)∧∀o,w.frozen? ⟨g,o,none⟩=false:=by
 obtain⟨_,⟨e,_⟩|⟨g',cap',cur,e,h1,hh,h3,h4,h5,h6⟩⟩:=h
 · cases e
 · simp only[Value.slice.injEq,Option.some.injEq,Addr.mk.injEq]at e
   obtain⟨⟨rfl,_⟩,rfl,rfl⟩:=e;exact⟨cur,h1,hh,rfl,h3,h4,h5,fun i x hi=>by have:=QOwn.cells hh h6 i x hi;rwa [Nat.zero_add]at this,fun o=>by simp[World.frozen?,hh]⟩
theorem QOwn.set{B:Nat}{w:World}{g cap n:Nat}{l:List Pl}(h:QOwn B w (.slice (some ⟨g,0,none⟩) n cap) l)(i:Nat)(x:Pl):QOwn B (w.setCells g (i*2) (encQ x)) (.slice (some ⟨g,0,none⟩) n cap) (l.set i x):=by
 obtain⟨cur,h1,hh,rfl,h3,h4,h5,hc,hf⟩:=h.block;obtain⟨cur',k1,k2⟩:=setCells_heap (encQ x) (i*2) w cur hh;have:=QOwn.of_cells (B:=B) (cap:=cap) (l:=l.set i x) h1 k2 (by simpa using h3) h4 (by omega) fun j y hj=>by
  by_cases e:j=i
  · subst e
    (have hjl:j<l.length:=by have:=(List.getElem?_eq_some_iff.1 hj).1;simpa using this);rw[List.getElem?_set_self hjl]at hj;simp only[Option.some.injEq]at hj;subst hj;have t:=hc j l[j] (List.getElem?_eq_getElem hjl);have a0:((w.setCell ⟨g,j*2,none⟩ (.int .u64 (x.1:Int))).cell? ⟨g,j*2,none⟩)=some (.int .u64 (x.1:Int)):=World.cell?_setCell_same' _ _ _ (by rw[t.c0];rfl);refine⟨?_,?_⟩
    · show((w.setCell ⟨g,j*2,none⟩ (.int .u64 (x.1:Int))).setCell ⟨g,j*2+1,none⟩ (.int .u64 (x.2:Int))).cell? ⟨g,j*2,none⟩=_
      have:=World.cell?_setCells_out g [.int .u64 (x.2:Int)] (j*2+1) (w.setCell ⟨g,j*2,none⟩ (.int .u64 (x.1:Int))) ⟨g,j*2,none⟩ (fun _ _=>by simp);exact this.trans a0
    · show((w.setCell ⟨g,j*2,none⟩ (.int .u64 (x.1:Int))).setCell ⟨g,j*2+1,none⟩ (.int .u64 (x.2:Int))).cell? ⟨g,j*2+1,none⟩=_
      refine World.cell?_setCell_same' _ _ _ ?_;have:(w.setCell ⟨g,j*2,none⟩ (.int .u64 (x.1:Int))).cell? ⟨g,j*2+1,none⟩=w.cell? ⟨g,j*2+1,none⟩:=World.cell?_setCells_out g [.int .u64 (x.1:Int)] (j*2) w ⟨g,j*2+1,none⟩ (fun _ _=>by simp);rw[this,t.c1];rfl
  · rw[List.getElem?_set_ne (fun e2=>e e2.symm)]at hj
    have t:=hc j y hj;refine⟨?_,?_⟩
    · rw[World.cell?_setCells_out g _ _ _ _ (fun _ _=>by rw[encQ_k];show j*2<i*2∨i*2+2≤j*2;omega)];exact t.c0
    · rw[World.cell?_setCells_out g _ _ _ _ (fun _ _=>by rw[encQ_k];show j*2+1<i*2∨i*2+2≤j*2+1;omega)];exact t.c1
 simpa using this
theorem QOwn.cut{B:Nat}{w:World}{g cap n:Nat}{l:List Pl}(h:QOwn B w (.slice (some ⟨g,0,none⟩) n cap) l)(j:Nat)(hj:j≤n)(vs:List Value):QOwn B (w.setCells g (j*2) vs) (.slice (some ⟨g,0,none⟩) j cap) (l.take j):=by
 obtain⟨cur,h1,hh,rfl,h3,h4,h5,hc,hf⟩:=h.block;obtain⟨cur',k1,k2⟩:=setCells_heap vs (j*2) w cur hh;have hl:(l.take j).length=j:=by simp;omega
 have:=QOwn.of_cells (B:=B) (cap:=cap) (l:=l.take j) h1 k2 (by omega) h4 (by omega) fun i y hi=>by
  have hil:=(List.getElem?_eq_some_iff.1 hi).1;rw[hl]at hil;rw[List.getElem?_take,if_pos hil]at hi;have t:=hc i y hi;refine⟨?_,?_⟩
  · rw[World.cell?_setCells_out g _ _ _ _ (fun _ _=>by show i*2<_∨_;omega)];exact t.c0
  · rw[World.cell?_setCells_out g _ _ _ _ (fun _ _=>by show i*2+1<_∨_;omega)];exact t.c1
 rw[hl]at this;exact this
theorem clear_ownQ{B:Nat}{w:World}{g cap n:Nat}{l:List Pl}(h:QOwn B w (.slice (some ⟨g,0,none⟩) n cap) l)(j m c:Nat)(hj:j+m=n)(ty:TypeId):
 ∃vs,(Builtin.clear_ #[81] ty #[.slice (some ⟨g,j*2,none⟩) m c]).run Tryz.prog w = .ok (.tuple #[]) (w.setCells g (j*2) vs):=by
 obtain⟨cur,h1,hh,rfl,h3,h4,h5,hc,hf⟩:=h.block;cases m with
 |zero=>exact⟨[],by simp[Builtin.clear_,run_underlying Tryz.underlying81];rfl⟩
 |succ m=>
  have hz:∀w,(zeroValue 115).run Tryz.prog w = .ok (.agg #[.int .u64 0,.int .u64 0]) w:=Tryz.zeroValue115
  let vs:=(Builtin.zeroCells (Value.agg #[.int .u64 0,.int .u64 0]).cells (m+1)).toList
  have hlen:vs.length=(m+1)*2:=by simp[vs,Builtin.zeroCells,Value.cells]
  have hone:∀v∈vs,v.oneCell'=true:=by
   intro v hv;simp only[vs,Builtin.zeroCells,Value.cells,Array.toList_map,List.mem_map]at hv;obtain⟨i,_,rfl⟩:=hv;(have:i%2=0∨i%2=1:=by omega);rcases this with e|e
   · show(Array.getD _ _ _:Value).oneCell'=true
     simp[e];rfl
   · show(Array.getD _ _ _:Value).oneCell'=true
     simp[e];rfl
  have hst:=run_storeCells_cells (P:=Tryz.prog) g (j*2) vs 0 w (fun t ht=>by
   (have hsz:j*2+0+t<cur.size:=by omega);simp[World.cell?,hh];omega) (fun t _=>hf _) hone
  refine⟨vs,?_⟩;simp only[Nat.add_zero]at hst;simp[Builtin.clear_,run_underlying Tryz.underlying81,hz];rw[show(Builtin.zeroCells (Value.agg #[.int .u64 0,.int .u64 0]).cells (m+1)).toList=vs from rfl];simp[hst]
end Go.Proofs.YthecngkdmnadoaaGreat

namespace Go.Proofs.YthecngkdmnadoaaGreat
open Go.RowKit
set_option maxRecDepth 100000
theorem QOwn.off{B:Nat}{w:World}{g cap n:Nat}{l:List Pl}(h:QOwn B w (.slice (some ⟨g,0,none⟩) n cap) l)(i:Nat)(y:List Pl)(hy:i+y.length≤n):QOwn B (w.setCells g (i*2) (cellsQ y)) (.slice (some ⟨g,0,none⟩) n cap) (l.take i++(y++l.drop (i+y.length))):=by
 induction y generalizing i l w with
 |nil=>
  have e:l.take i++([]++l.drop (i+([]:List Pl).length))=l:=by simp
  rw[e];exact h
 |cons x y ih=>
  have h1:=h.set i x;have h2:=ih h1 (i+1) (by simp at hy;omega);obtain⟨_,_,_,hn,_⟩:=h.block;have e:(l.set i x).take (i+1)++(y++(l.set i x).drop (i+1+y.length))=l.take i++(x::y++l.drop (i+(x::y).length)):=by
   (have hi:i<l.length:=by simp at hy;omega);rw[List.take_succ_eq_append_getElem (by simpa using hi),List.take_set_of_le (Nat.le_refl _),List.drop_set_of_lt (by omega)];simp;congr 1;omega
  rw[e]at h2;have ew:w.setCells g (i*2) (cellsQ (x::y))=(w.setCells g (i*2) (encQ x)).setCells g ((i+1)*2) (cellsQ y):=by
   show World.setCells _ _ _ (encQ x++cellsQ y)=_;rw[show(i+1)*2=i*2+1+1 by omega];rfl
  rw[ew];exact h2
theorem append_over{B:Nat}{w:World}{g cap n:Nat}{l:List Pl}(h:QOwn B w (.slice (some ⟨g,0,none⟩) n cap) l)(i j m:Nat)(hij:i≤j)(hj:j+m=n)(ad:Option Addr)(c:Nat)(had:0<m→ad=some ⟨g,j*2,none⟩)(ty:TypeId):
 (Builtin.append_ #[81,81] ty #[.slice (some ⟨g,0,none⟩) i cap,.slice ad m c]).run Tryz.prog w = .ok (.slice (some ⟨g,0,none⟩) (i+m) cap) (w.setCells g (i*2) (cellsQ (l.drop j))):=by
 obtain⟨cur,h1,hh,hn,h3,h4,h5,hc,hf⟩:=h.block;rcases Nat.eq_zero_or_pos m with rfl|hm
 · have e:l.drop j=[]:=List.drop_eq_nil_of_le (by omega)
   (have hic:i≤cap:=by omega);rw[e];cases ad
   · go_simp
     rfl
   · go_simp
     rfl
 · obtain⟨i0,hi,hz0,hz1,hz2⟩:=info_parts info_Q
   rw[had hm];(have hl:(l.drop j).length=m:=by rw[List.length_drop];omega);(have hadd:∀k,(⟨g,j*2,none⟩:Addr).add k=⟨g,j*2+k,none⟩:=fun k=>by unfold Addr.add;split<;>simp_all);have:=run_append_room_cells (P:=Tryz.prog) w 81 ty 115 i0 Tryz.underlying81 hi g 0 i cap ⟨g,j*2,none⟩ m c (cellsQ (l.drop j)) (by rw[cellsQ_len,hl,hz1]) (fun k u hk=>by
    have hkl:=(List.getElem?_eq_some_iff.1 hk).1;rw[cellsQ_len,hl]at hkl;obtain⟨a,r,rfl,hr⟩:∃a r,k=a*2+r∧r<2:=⟨k/2,k%2,by omega,by omega⟩;(have ha:a<(l.drop j).length:=by omega);have hx:(l.drop j)[a]?=some (l.drop j)[a]:=List.getElem?_eq_getElem ha;(have hx2:l[j+a]?=some (l.drop j)[a]:=by rw[←List.getElem?_drop];exact hx);have t:=hc (j+a) _ hx2;rw[cellsQ_get _ a r _ hx hr]at hk;rw[hadd];rcases(by omega:r=0∨r=1)with rfl|rfl
    · simp only[encQ,List.getElem?_cons_zero,Option.some.injEq]at hk
      rw[←hk,show j*2+(a*2+0)=(j+a)*2 by omega];exact t.c0
    · simp only[encQ,List.getElem?_cons_succ,List.getElem?_cons_zero,Option.some.injEq]at hk
      rw[←hk,show j*2+(a*2+1)=(j+a)*2+1 by omega];exact t.c1) (cellsQ_one _) (by omega) (fun k hk=>by
    rw[cellsQ_len,hl]at hk;rw[hz1];simp[World.cell?,hh];omega) (fun k _=>hf _)
   rw[hz1,Nat.zero_add]at this;exact this
end Go.Proofs.YthecngkdmnadoaaGreat

namespace Go.Proofs.YthecngkdmnadoaaGreat
open Go.RowKit
set_option maxRecDepth 100000
theorem But.setCells{r:Nat}{a w:World}(h:But r a w)(o:Nat)(vs:List Value):But r a (w.setCells r o vs):=by
 induction vs generalizing o w with
 |nil=>exact h
 |cons v vs ih=>exact ih (h.setCell o v) (o+1)
theorem exec_append_run{P:Program}{o:Oper}{ev:Operand→Value}{w w':World}{v s v':Value}(x y:Operand)(t:TypeId)
 (ho:o.op = .call { callee := .builtin .append,args:=#[x,y],argTypes:=#[t,t] }) (hx:ev x=v) (hy:ev y=s) (hr:(Builtin.append_ #[t,t] o.type #[v,s]).run P w = .ok v' w'):
 (execOp ev o).run P w = .ok (.value v') w':=by
 unfold execOp;simp only[ho,resolve,invoke,builtin,Sem.run_bind,Sem.run_pure,Result.andThen_ok,List.map_toArray,List.map_cons,List.map_nil,hx,hy,hr]
set_option maxHeartbeats 1000000 in
theorem deleteQ_any(B:Nat)(w:World)(g cap n i j:Nat)(l:List Pl)(h:QOwn B w (.slice (some ⟨g,0,none⟩) n cap) l)(hij:i≤j)(hj:j≤n)(hn:n<1099511627776):
 Calls Tryz.prog 83 #[.slice (some ⟨g,0,none⟩) n cap,.int .i64 i,.int .i64 j] w fun e w'=>e = .returned (.slice (some ⟨g,0,none⟩) (n-(j-i)) cap)∧QOwn B w' (.slice (some ⟨g,0,none⟩) (n-(j-i)) cap) (l.take i++l.drop j)∧But g w w':=by
 obtain⟨cur,h1,hh,hnl,h3,h4,h5,hc,hf⟩:=h.block;have HN:Hid (n=l.length):=hnl;have H:Hid (QOwn B w (.slice (some ⟨g,0,none⟩) n cap) l):=h;clear h hh hc hf h5 hnl h1;have hz1:(i:Int)≤(j:Int):=by omega
 have hz2:(j:Int)≤(n:Int):=by omega
 have hz3:(i:Int)≤(n:Int):=by omega
 have hz4:(n:Int)≤(cap:Int):=by omega
 by_cases he:i=j
 · subst he
   have HE:Hid (l.take i++l.drop i=l):=List.take_append_drop i l;(have hnn:n-(i-i)=n:=by omega);rw[hnn,HE.out];clear hnn HE;(have hic:i≤cap:=by omega);by_cases hni:n=i
   · subst hni
     go_enter Tryz.func83,Tryz.ntmps83;go_wp2_with fail;go_ret;exact⟨rfl,H.out,But.refl _ _⟩
   go_enter Tryz.func83,Tryz.ntmps83;go_wp2_with fail;go_ret;exact⟨rfl,H.out,But.refl _ _⟩
 · have heb:((i:Int)==(j:Int))=false:=beq_eq_false_iff_ne.2 (by omega)
   obtain⟨m,hm⟩:∃m,j+m=n:=⟨n-j,by omega⟩;(have hic:i≤cap:=by omega);(have hjc:j≤cap:=by omega);(have hnm:n-j=m:=by omega);(have hcut:(n:Int)-(j:Int)=(m:Int):=by omega);(have hnk:n-(j-i)=i+m:=by omega);rw[hnk];go_enter Tryz.func83,Tryz.ntmps83;(go_upto_region 5 with fail);refine region_at (S:=fun _=>True) 8 rfl (by kernel_rfl) trivial (fun _=>?_);refine tq4 id 0 20 1 21 2 22 3 23 ?_;simp only[sZa,sZb,sZc];refine tq2 id 4 24 5 25 ?_;simp only[sZa,sZb,sZc];have hd:QOwn B w.drew (.slice (some ⟨g,0,none⟩) n cap) l:=H.out;refine one_value (i:=6) (v := .slice (some ⟨g,0,none⟩) (i+m) cap) (w':=w.drew.setCells g (i*2) (cellsQ (l.drop j))) 26 (by kernel_rfl) rfl rfl (by rfl) (exec_append_run _ _ 81 rfl rfl rfl (append_over hd i j m (by omega) hm _ _ (fun h0=>if_neg (by omega)) _)) trivial (fun _=>?_);simp only[sZa,sZb,sZc];(have hlen:(l.drop j).length=m:=by rw[List.length_drop,←HN.out];omega);have h2:=hd.off i (l.drop j) (by rw[hlen];omega);have HB2:Hid (But g w (w.drew.setCells g (i*2) (cellsQ (l.drop j)))):=((But.refl g w).drew).setCells _ _;obtain⟨w2,hw2⟩:∃w2,w.drew.setCells g (i*2) (cellsQ (l.drop j))=w2:=⟨_,rfl⟩;rw[hw2]at h2 HB2 ⊢;refine one_value (i:=7) (v := .slice (some ⟨g,0,none⟩) (i+m) cap) (w':=w2) 0 (by kernel_rfl) rfl rfl (by rfl) (by kernel_rfl) trivial (fun _=>?_);refine wpAnyH_done (by kernel_rfl) ?_ _;simp only[List.setIfInBounds_toArray,List.set_cons_zero];have HE:Hid ((l.take i++(l.drop j++l.drop (i+(l.drop j).length))).take (i+m)=l.take i++l.drop j):=by
    show _=_;(have e1:(l.take i).length=i:=by rw[List.length_take,←HN.out];omega);rw[←List.append_assoc];refine List.take_left' ?_;rw[List.length_append,e1,hlen]
   obtain⟨L,hL⟩:∃L,l.take i++(l.drop j++l.drop (i+(l.drop j).length))=L:=⟨_,rfl⟩;rw[hL]at h2 HE;obtain⟨q,hq⟩:∃q,i+m=q:=⟨_,rfl⟩;have HQ:Hid (i+m=q):=hq;rw[hq]at HE;simp only[hq];generalize (if cap=j then some (⟨g,0,none⟩:Addr)else some ⟨g,j*2,none⟩)=ad;obtain⟨k,hk⟩:∃k,q+k=n:=⟨n-q,by omega⟩;obtain⟨vs,hvs⟩:=clear_ownQ h2 q k (cap-q) hk 0;have HO2:Hid (QOwn B (w2.setCells g (q*2) vs) (.slice (some ⟨g,0,none⟩) q cap) (L.take q)):=h2.cut q (by omega) vs;have HB3:Hid (But g w (w2.setCells g (q*2) vs)):=HB2.out.setCells _ _;(have hqc:q<cap:=by omega);(have hqn:q<n:=by omega);(have eni:n-q=k:=by omega);(have eniz:(n:Int)-(q:Int)=(k:Int):=by omega);clear h2 hd hL hw2 hlen HB2 hnk hcut hnm hm hq;go_wp2_with fail;go_ret;have e:=HQ.out;subst e;exact⟨rfl,by rw[←HE.out];exact HO2.out,HB3.out⟩
end Go.Proofs.YthecngkdmnadoaaGreat

namespace Go.Proofs.YthecngkdmnadoaaGreat
open Go.RowKit
set_option maxRecDepth 100000
def ownB(ad:Option Addr):List Nat:=(ad.map (·.block)).toList
def frsR(d:DS):List Pl→Int×DS
 |[]=>(0,d)
 |x::r=>if frE d=0 then frsR (frD d ((4*x.1+1:Nat):Int)) r else (frE d,frD d ((4*x.1+1:Nat):Int))
structure FrR(N:Nat)(p:Nat)(d:DS)(fp:List Nat)(l:List Pl)(w:World)(v15:Value)(wr:World)(i:Nat)(d':DS)(fp':List Nat):Prop where
 e15:v15 = .int .i64 i
 hi:i≤l.length
 rest:frsR d l=frsR d' (l.drop i)
 disk:DiskAt (N+i) wr p d' fp'
 sub:∀x∈fp',x∈fp
 only:Only fp w wr
theorem QOwn.only{B:Nat}{w w':World}{v:Value}{l:List Pl}{fp:List Nat}(h:QOwn B w v l)(hb:Only fp w w')(hf:∀ad n c,v = .slice ad n c→∀x∈ownB ad,x∉fp):QOwn B w' v l:=by
 obtain⟨hl,hn|⟨g,cap,cur,rfl,h1,hg,h2⟩⟩:=h
 · exact⟨hl,.inl hn⟩
 · exact⟨hl,.inr ⟨g,cap,cur,rfl,h1,(hb.block g (Array.getElem?_eq_some_iff.1 hg).1 (hf _ _ _ rfl g (by simp[ownB]))).trans hg,h2⟩⟩
theorem Only.wider{fp fp':List Nat}{w w':World}(h:Only fp w w')(hs:∀x∈fp,x∈fp'):Only fp' w w':=⟨h.os,h.tape,h.output,h.size,fun k hk hn=>h.block k hk fun hx=>hn (hs k hx)⟩
theorem Only.setCell{fp:List Nat}{a w:World}(h:Only fp a w){r:Nat}(hr:r∈fp)(o:Nat)(u:Value):Only fp a (w.setCell ⟨r,o,none⟩ u):=
 h.then (Only.of_one (fp:=fp) (one_setCell w r o u) hr) (fun _ hx=>hx)
set_option maxHeartbeats 1000000 in
theorem deleteQ_nil(w:World):Calls Tryz.prog 83 #[.slice none 0 0,.int .i64 0,.int .i64 0] w fun e w'=>e = .returned (.slice none 0 0)∧w'=w:=by
 go_enter Tryz.func83,Tryz.ntmps83;go_wp2_with fail;go_ret;exact⟨rfl,rfl⟩
theorem deleteQ_front(B:Nat)(w:World)(ad:Option Addr)(n c i:Nat)(l:List Pl)(h:QOwn B w (.slice ad n c) l)(hi:i≤n)(hn:n<1099511627776):
 Calls Tryz.prog 83 #[.slice ad n c,.int .i64 0,.int .i64 i] w fun e w'=>e = .returned (.slice ad (n-i) c)∧QOwn B w' (.slice ad (n-i) c) (l.drop i)∧Only (ownB ad) w w':=by
 have h':=h;obtain⟨hl,⟨e,h0⟩|⟨g,cap,cur,e,hb,hh,h3,h4,h5,h6⟩⟩:=h'
 · simp only[Value.slice.injEq]at e
   obtain⟨rfl,rfl,rfl⟩:=e;(obtain rfl:i=0:=by omega);obtain rfl:=List.eq_nil_of_length_eq_zero h0;refine(deleteQ_nil w).mono ?_;rintro e w' ⟨rfl,rfl⟩;exact⟨rfl,h,Only.refl _ _⟩
 · simp only[Value.slice.injEq]at e
   obtain⟨rfl,-,rfl⟩:=e;refine(deleteQ_any B w g c n 0 i l h (Nat.zero_le _) hi hn).mono ?_;rintro e w' ⟨rfl,h1,h2⟩;refine⟨rfl,by simpa using h1,⟨h2.os,h2.tape,h2.output,h2.size,fun k hk hx=>h2.block k hk fun e=>hx (by simp[ownB,e])⟩⟩
theorem WalAt.places{w:World}{b:Nat}{n:WN}{v:WV}(h:WalAt w b n v)(m:Nat):WalAt (w.setCell ⟨b,3,none⟩ (.slice v.pa m v.pc)) b n { v with pn:=m }:=by
 unfold WalAt;rw[set_cell h 3 _];rfl
def S2(b p pb:Nat)(x:Int)(W:World):Prop:=W.cell? ⟨b,0,none⟩=some (.pointer (some ⟨p,0,none⟩))∧W.cell? ⟨pb,0,none⟩=some (.int .u64 x)
theorem S2.facts{b p pb:Nat}{x:Int}{W:World}(h:S2 b p pb x W):W.cell? ⟨b,0,none⟩=some (.pointer (some ⟨p,0,none⟩))∧W.cell? ⟨pb,0,none⟩=some (.int .u64 x):=h
set_option maxHeartbeats 4000000 in
theorem freeFront_any(B N b k:Nat)(d:DS)(fp:List Nat)(n:WN)(v:WV)(l:List Pl)(w:World)(h:DiskAt N w v.p d fp)(hw:WalAt w b n v)(hN:N<549755813888)(hq:QOwn B w (.slice v.pa v.pn v.pc) l)(hk:k≤v.pn)(hkn:v.pn<549755813888)
 (hbf:b∉fp) (hgf:∀x∈ownB v.pa,x∉fp∧x≠b) (hl:∀x∈l,x.1≤1152921504606846976):
 Calls Tryz.prog 65 #[.pointer (some ⟨b,0,none⟩),.int .i64 k] w fun e w'=>e = .returned (.int .i64 (frsR d (l.take k)).1)∧(∃fp',DiskAt (N+k) w' v.p (frsR d (l.take k)).2 fp'∧∀x∈fp',x∈fp)∧Only (b::(ownB v.pa++fp)) w w' ∧
  (((frsR d (l.take k)).1=0∧WalAt w' b n { v with pn:=v.pn-k }∧QOwn B w' (.slice v.pa (v.pn-k) v.pc) (l.drop k))∨((frsR d (l.take k)).1≠0∧WalAt w' b n v∧QOwn B w' (.slice v.pa v.pn v.pc) l)):=by
 have HD:Hid (DiskAt N w v.p d fp):=h;have HQ:Hid (QOwn B w (.slice v.pa v.pn v.pc) l):=hq;have HW:Hid (WalAt w b n v):=hw;have HF:Hid (b∉fp∧(∀x∈ownB v.pa,x∉fp∧x≠b)):=⟨hbf,hgf⟩;have HL:Hid (∀x∈l,x.1≤1152921504606846976):=hl;have hlen:v.pn=l.length:=by
  obtain⟨ad,cap,e⟩:=hq.shape;simp only[Value.slice.injEq]at e;exact e.2.1
 have hpc:v.pn≤v.pc:=by
  obtain⟨hl,⟨e,h0⟩|⟨g,cap,cur,e,hb,hh,h3,h4,h5,h6⟩⟩:=hq
  · simp only[Value.slice.injEq]at e;omega
  · simp only[Value.slice.injEq]at e;omega
 obtain⟨c0,c1,c2,c3,c4,c5,c6,c7,c8,c9,hz⟩:=hw.cells;have hkz:(k:Int)≤(v.pn:Int):=by omega
 have hkc:k≤v.pc:=by omega
 have hpnc:(v.pn:Int)≤(v.pc:Int):=by omega
 have HLK:Hid ((l.take k).length=k):=by show _=_;rw[List.length_take];omega
 clear c1 c2 c4 c5 c6 c7 c8 c9 h hq hlen hl hgf hw;obtain⟨pa,hpa⟩:∃pa,v.pa=pa:=⟨_,rfl⟩;obtain⟨pn,hpn⟩:∃pn,v.pn=pn:=⟨_,rfl⟩;obtain⟨pc,hpc2⟩:∃pc,v.pc=pc:=⟨_,rfl⟩;obtain⟨p,hp⟩:∃p,v.p=p:=⟨_,rfl⟩;go_enter Tryz.func65,Tryz.ntmps65;go_wp2_with fail
 go_loopw [15] (fun v15 wr=>∃i d' fp',FrR N v.p d fp (l.take k) w v15 wr i d' fp') (fun v15 _=>k-(intOf v15).toNat)
 case atStart=>exact⟨0,d,fp,rfl,Nat.zero_le _,rfl,HD.out,fun _ hx=>hx,Only.refl _ _⟩
 case round=>
  obtain⟨i,d',fp',hI⟩:=hrel;have HI:Hid (FrR N v.p d fp (l.take k) w _ wr i d' fp'):=hI;obtain⟨rfl,hi,-,-,-,hO⟩:=hI;rw[HLK.out]at hi;have hb0:=(Array.getElem?_eq_some_iff.1 HW.out).1;have hW2:WalAt wr b n v:=(hO.block b hb0 HF.out.1).trans HW.out;have hQ2:QOwn B wr (.slice v.pa v.pn v.pc) l:=HQ.out.only hO (fun ad n c e=>by simp only[Value.slice.injEq]at e;rw[←e.1];exact fun x hx=>(HF.out.2 x hx).1);have HW2:Hid (WalAt wr b n v):=hW2;have HQ2:Hid (QOwn B wr (.slice v.pa v.pn v.pc) l):=hQ2;obtain⟨e0,e1,e2,e3,e4,e5,e6,e7,e8,e9,ez⟩:=hW2.cells;have hwr:b<wr.heap.size:=hW2.lt;clear e1 e2 e4 e5 e6 e7 e8 e9 hO hW2 c0 c3;by_cases hin:i<k
  · obtain⟨x,hx⟩:∃x,l[i]?=some x:=⟨_,List.getElem?_eq_getElem (by have:=HLK.out;rw[List.length_take]at this;omega)⟩
    obtain⟨g,off,hpg,hg,hc⟩:=hQ2.row.at (by omega);have hxx:=hc i x hx;obtain⟨t0,t1⟩:=hxx;clear hQ2 hc;rw[hpg]at hpa;subst hpa;have hi1:=HI.out.disk;rw[hp]at hi1;have hlt:∀y∈fp',y<wr.heap.size:=hi1.lt;have hxn:x.1≤1152921504606846976:=HL.out x (List.mem_of_getElem? hx);obtain⟨w1,hw1⟩:∃w1,wr.alloc (.cells #[.int .u64 (x.1:Int),.int .u64 (x.2:Int)] 115)=w1:=⟨_,rfl⟩;(have hs1:w1.heap.size=wr.heap.size+1:=by rw[←hw1];simp);have B1:Below wr.heap.size wr w1:=hw1▸(Below.refl _ wr).alloc (Nat.le_refl _) _;have HD1:Hid (DiskAt (N+i) w1.drew p d' fp'):=hi1.below B1.drew;(have hn1:w1.cell? ⟨wr.heap.size,0,none⟩=some (.int .u64 (x.1:Int)):=by rw[←hw1];simp);rw[hp]at e0;have HS:Hid (S2 b p wr.heap.size (x.1:Int) w1.drew):=⟨(B1.cell (p:=⟨b,0,none⟩) hwr).trans e0,hn1⟩;have HO1:Hid (Only fp w w1.drew):=(HI.out.only.then (Only.of_below (fp:=fp) B1) (fun _ hh=>hh)).drew;have HRX:Hid (frsR d (l.take k)=if frE d'=0 then frsR (frD d' ((4*x.1+1:Nat):Int)) ((l.take k).drop (i+1))else (frE d',frD d' ((4*x.1+1:Nat):Int))):=by
     show _=_;(have hxk:(l.take k)[i]?=some x:=by rw[List.getElem?_take,if_pos hin];exact hx);have hlk:i<(l.take k).length:=(List.getElem?_eq_some_iff.1 hxk).1;have e:(l.take k).drop i=x::(l.take k).drop (i+1):=by
      rw[List.drop_eq_getElem_cons hlk];congr 1;exact(List.getElem?_eq_some_iff.1 hxk).2
     rw[HI.out.rest,e,frsR]
    (have hbn:b∉fp':=fun hh=>hbf (HI.out.sub b hh));(go_upto_region 4 with fail);(try rw[hw1]);clear hn1 B1 hw1 hi1 t0 t1 e0 e3;refine region_at (S:=S2 b p wr.heap.size (x.1:Int)) 9 rfl (by kernel_rfl) HS.out (fun _=>?_);refine tq4 S2.facts 0 19 1 20 2 21 3 22 ?_;simp only[sZa,sZb,sZc];refine tq2 S2.facts 4 23 5 24 ?_;simp only[sZa,sZb,sZc];refine one_call (i:=6) (w0:=w1.drew) 25 38 #[.int .u64 (x.1:Int)] (by kernel_rfl) rfl rfl (by rfl) (by kernel_rfl) ?_;refine(areaOf_any x.1 _ hxn).mono ?_;rintro e w2 ⟨rfl,hw2⟩;subst w2;refine⟨_,rfl,HS.out,fun _=>?_⟩;simp only[sZa,sZb,sZc];refine one_call (i:=7) (w0:=w1.drew) 26 27 #[.pointer (some ⟨p,0,none⟩),.int .u64 ((4*x.1+1:Nat):Int)] (by kernel_rfl) rfl rfl (by rfl) (by kernel_rfl) ?_;refine(Free_any (N+i) p d' fp' _ _ HD1.out (by omega)).mono ?_;rintro e w3 ⟨rfl,fp3,hD3,hO3,hs3⟩;have HS3:Hid (S2 b p wr.heap.size (x.1:Int) w3):=by
     refine⟨?_,?_⟩
     · have:=hO3.block b (by show b<w1.heap.size;omega) hbn
       have h0:=HS.out.1;unfold World.cell? at h0 ⊢;rw[this];exact h0
     · have:=hO3.block wr.heap.size (by show wr.heap.size<w1.heap.size;omega) (fun hh=>by have:=hlt _ hh;omega)
       have h0:=HS.out.2;unfold World.cell? at h0 ⊢;rw[this];exact h0
    refine⟨_,rfl,HS3.out,fun _=>?_⟩;simp only[sZa,sZb,sZc];refine one_value (i:=8) (v := .int .i64 (frE d')) (w':=w3) 7 (by kernel_rfl) rfl rfl (by rfl) (by kernel_rfl) HS3.out (fun _=>?_);refine wpAnyH_done (by kernel_rfl) ?_ _;simp only[sZa,sZb,sZc];have HO3:Hid (Only fp w w3):=HO1.out.then hO3 HI.out.sub;have HD3:Hid (DiskAt (N+i+1) w3 p (frD d' ((4*x.1+1:Nat):Int)) fp3):=hD3;(have HS4:Hid (∀y∈fp3,y∈fp):=fun y hy=>HI.out.sub y (hs3 y hy));clear hD3 hO3 hs3 HS HS3 HD1 HO1 hlt hbn;by_cases h0:frE d'=0
    · rw[if_pos h0]at HRX
      rw[h0];go_wp2_with fail
      go_roundw
      (case rel=>exact⟨i+1,_,fp3,by go_num,by rw[HLK.out];omega,HRX.out,by rw[hp];exact HD3.out,HS4.out,HO3.out⟩);case measure=>simp[intOf];omega
    · rw[if_neg h0]at HRX
      (have h0b:(frE d'==0)=false:=by simpa using h0);(have h0n:(frE d' != 0)=true:=by simpa using h0);go_wp2_with fail;go_ret;have hO:=HO3.out;refine⟨by rw[HRX.out];rfl,⟨fp3,by rw[HRX.out,hp];exact HD3.out.mono (by omega),HS4.out⟩,hO.wider (fun y hy=>by simp[hy]),.inr ⟨by rw[HRX.out];exact h0,(hO.block b hb0 HF.out.1).trans HW.out,?_⟩⟩;exact HQ.out.only hO (fun ad n c e=>by simp only[Value.slice.injEq]at e;rw[←e.1];exact fun x hx=>(HF.out.2 x hx).1)
  · have hik:i=k:=by omega
    subst hik;have HRX:Hid (frsR d (l.take i)=(0,d')):=by
     show _=_;rw[HI.out.rest,List.drop_eq_nil_of_le (Nat.le_of_eq HLK.out),frsR]
    have HDEL:Hid (Calls Tryz.prog 83 #[.slice pa pn pc,.int .i64 0,.int .i64 i] wr fun e w'=>e = .returned (.slice pa (pn-i) pc)∧QOwn B w' (.slice pa (pn-i) pc) (l.drop i)∧Only (ownB pa) wr w'):=by
     have:=deleteQ_front B wr v.pa v.pn v.pc i l hQ2 (by omega) (by omega);rw[hpa,hpn,hpc2]at this;exact this
    clear hQ2;go_wp2_with (go_at_call 83;refine HDEL.out.mono ?_;rintro e w4 ⟨rfl,hq4,hO4⟩;have hW4:=(show WalAt w4 b n v from(hO4.block b hwr (by rw[←hpa];exact fun hx=>(HF.out.2 b hx).2 rfl)).trans HW2.out);have ez4:=hW4.cells.2.2.2.2.2.2.2.2.2.2;have ec4:=hW4.cells.2.2.2.1);go_ret;rw[←hpa,←hpn,←hpc2]at hq4;rw[←hpa]at hO4;rw[←hpa,←hpn,←hpc2];have hOb:Only [b] w4 (w4.setCell ⟨b,3,none⟩ (.slice v.pa (v.pn-i) v.pc)):=(Only.refl _ _).setCell (by simp) _ _;refine⟨by rw[HRX.out];rfl,⟨fp',?_,HI.out.sub⟩,?_,.inl ⟨by rw[HRX.out],hW4.places _,?_⟩⟩
    · rw[HRX.out]
      exact(HI.out.disk.apart hO4 fun x hx hx'=>(HF.out.2 x hx').1 (HI.out.sub x hx)).apart hOb fun x hx hx'=>by
       rw[List.mem_singleton]at hx';exact hbf (HI.out.sub b (hx'▸hx))
    · exact((HI.out.only.wider (fun y hy=>by simp[hy])).then hO4 (fun y hy=>by simp[hy])).then hOb (fun y hy=>by rw[List.mem_singleton]at hy;simp[hy])
    · exact hq4.only hOb (fun ad n c e=>by
       simp only[Value.slice.injEq]at e;rw[←e.1];intro x hx hx';rw[List.mem_singleton]at hx';exact(HF.out.2 x hx).2 hx')
end Go.Proofs.YthecngkdmnadoaaGreat
