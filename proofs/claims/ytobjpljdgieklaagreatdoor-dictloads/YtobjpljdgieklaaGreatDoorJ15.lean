import Derived.Test.YtobjpljdgieklaaGreatDoorKMap
import Derived.Test.YtobjpljdgieklaaGreatDoorJ13
set_option maxRecDepth 100000
set_option maxHeartbeats 8000000
namespace Go.Proofs.YtobjpljdgieklaaGreatDoor
section
open Go.RowKit Nums Fm
def zDj(a:Arc):List Value:=[.int .i32 a.label,.int .i64 a.out,.int .i64 a.to]
theorem zNe(a:Arc):zGr 3 (zDj a):=⟨rfl,by simp[zDj,Value.oneCell']⟩
def zXr(a:Arc):Prop:=zIk a.label∧zB3 a.out∧zB3 a.to
def AOwn(B:Nat)(w:World)(v:Value)(l:List Arc):Prop:=GOwn 126 3 B w v (l.map zDj)
structure LInv(m:List (LK×Nat))(D:List (List Arc)):Prop where
 zero:D[0]?=some []
 len:D.length=m.length+1
 row:∀(i:Nat) (x:LK) (n:Nat),m[i]?=some (x,n)→n=i+1∧∃p,D[x.1]?=some p∧D[n]?=some (p++[x.2])
 nd:D.Nodup
theorem zG2{α:Type}{l:List α}(h:l.Nodup){i j:Nat}{x:α}(hi:l[i]?=some x)(hj:l[j]?=some x):i=j:=by
 obtain⟨h1,e1⟩:=List.getElem?_eq_some_iff.1 hi;obtain⟨h2,e2⟩:=List.getElem?_eq_some_iff.1 hj;have hp:=List.pairwise_iff_getElem.1 h;rcases Nat.lt_trichotomy i j with h3|h3|h3
 · exact absurd (e1.trans e2.symm) (hp i j h1 h2 h3)
 · exact h3
 · exact absurd (e2.trans e1.symm) (hp j i h2 h1 h3)
theorem zJb{α:Type}{l:List α}{x:α}(h:l.Nodup)(hx:x∉l):(l++[x]).Nodup:=by
 rw[List.nodup_append];exact⟨h,by simp,fun a ha b hb=>by rw[List.mem_singleton.1 hb];exact fun e=>hx (e▸ha)⟩
theorem LInv.found{m:List (LK×Nat)}{D:List (List Arc)}(h:LInv m D){n k:Nat}{a:Arc}{p:List Arc}(hm:((n,a),k)∈m)(hn:D[n]?=some p):D[k]?=some (p++[a]):=by
 obtain⟨i,hi⟩:=List.mem_iff_getElem?.1 hm;obtain⟨_,p',h1,h2⟩:=h.row i _ _ hi;rw[hn]at h1;cases h1;exact h2
theorem LInv.add{m:List (LK×Nat)}{D:List (List Arc)}(h:LInv m D){n:Nat}{a:Arc}{p:List Arc}(hnew:∀k,((n,a),k)∉m)(hn:D[n]?=some p):LInv (m++[((n,a),m.length+1)]) (D++[p++[a]])∧(D++[p++[a]])[m.length+1]?=some (p++[a]):=by
 have hlen:=h.len;have hlast:(D++[p++[a]])[m.length+1]?=some (p++[a]):=by rw[List.getElem?_append_right (by omega),hlen];simp
 have hpre:∀{i:Nat} {q:List Arc},D[i]?=some q→(D++[p++[a]])[i]?=some q:=fun {i q} hi=>by
  rw[List.getElem?_append_left (List.getElem?_eq_some_iff.1 hi).1];exact hi
 refine⟨⟨hpre h.zero,by simp[hlen],fun i x k hi=>?_,zJb h.nd fun hmem=>?_⟩,hlast⟩
 · by_cases hil:i<m.length
   · rw[List.getElem?_append_left hil]at hi
     obtain⟨h1,q,h2,h3⟩:=h.row i x k hi;exact⟨h1,q,hpre h2,hpre h3⟩
   · rw[List.getElem?_append_right (by omega)]at hi
     cases hi0:i-m.length with
     |zero=>
      rw[hi0]at hi;simp only[List.getElem?_cons_zero,Option.some.injEq,Prod.mk.injEq]at hi;obtain⟨rfl,rfl⟩:=hi;exact⟨by omega,p,hpre hn,hlast⟩
     |succ j=>rw[hi0]at hi;simp at hi
 · obtain⟨i,hi⟩:=List.mem_iff_getElem?.1 hmem
   have hil:=(List.getElem?_eq_some_iff.1 hi).1;cases i with
   |zero=>
    rw[h.zero]at hi;simp at hi
   |succ j=>
    obtain⟨⟨x,k⟩,hx⟩:∃xk,m[j]?=some xk:=⟨m[j]'(by omega),List.getElem?_eq_getElem _⟩;obtain⟨rfl,q,h2,h3⟩:=h.row j x k hx;rw[hi]at h3;simp only[Option.some.injEq]at h3;have h4:=List.append_inj' h3 rfl;(have e1:x.2=a:=by have:=h4.2;simp at this;exact this.symm);rw[←h4.1]at h2;have e2:x.1=n:=zG2 h.nd h2 hn;have ex:x=(n,a):=Prod.ext e2 e1;exact hnew (j+1) (ex▸List.mem_of_getElem? hx)
structure NInv(m:List (SK×Nat))(D:List (List Arc))(b:List St):Prop where
 len:m.length=b.length
 row:∀(i:Nat) (x:SK) (n:Nat),m[i]?=some (x,n)→n=i∧∃s,b[i]?=some s∧s.final=x.1∧s.out=x.2.1∧D[x.2.2]?=some s.arcs
 nd:b.Nodup
theorem NInv.more{m:List (SK×Nat)}{D D':List (List Arc)}{b:List St}(h:NInv m D b)(hp:D<+:D'):NInv m D' b:=by
 obtain⟨t,rfl⟩:=hp;refine⟨h.len,fun i x n hi=>?_,h.nd⟩;obtain⟨h1,s,h2,h3,h4,h5⟩:=h.row i x n hi;exact⟨h1,s,h2,h3,h4,by rw[List.getElem?_append_left (List.getElem?_eq_some_iff.1 h5).1];exact h5⟩
theorem NInv.found{m:List (SK×Nat)}{D:List (List Arc)}{b:List St}(h:NInv m D b){s:St}{ln k:Nat}(hm:((s.final,s.out,ln),k)∈m)(hl:D[ln]?=some s.arcs):zDe b s=(b,k)∧k<b.length:=by
 obtain⟨i,hi⟩:=List.mem_iff_getElem?.1 hm;obtain⟨rfl,s',h2,h3,h4,h5⟩:=h.row i _ _ hi;rw[hl]at h5;have e:s'=s:=by
  cases s;cases s';simp only[Option.some.injEq]at h3 h4 h5;simp only[St.mk.injEq];exact⟨h3,h4,h5.symm⟩
 subst e;have hmem:s'∈b:=List.mem_of_getElem? h2;have hidx:=List.idxOf_lt_length_of_mem hmem;have:b.idxOf s'=k:=zG2 h.nd (by rw[List.getElem?_eq_getElem hidx,List.getElem_idxOf]) h2;rw[zDe,if_pos hmem,this];exact⟨rfl,(List.getElem?_eq_some_iff.1 h2).1⟩
theorem NInv.add{m:List (SK×Nat)}{D:List (List Arc)}{b:List St}(h:NInv m D b)(hD:D.Nodup){s:St}{ln:Nat}(hnew:∀k,((s.final,s.out,ln),k)∉m)(hl:D[ln]?=some s.arcs):zDe b s=(b++[s],b.length)∧NInv (m++[((s.final,s.out,ln),b.length)]) D (b++[s]):=by
 have hmem:s∉b:=fun hmem=>by
  obtain⟨i,hi⟩:=List.mem_iff_getElem?.1 hmem;have hil:=(List.getElem?_eq_some_iff.1 hi).1;have hlen:=h.len;obtain⟨⟨x,k⟩,hx⟩:∃xk,m[i]?=some xk:=⟨m[i]'(by omega),List.getElem?_eq_getElem _⟩;obtain⟨_,s',h2,h3,h4,h5⟩:=h.row i x k hx;rw[hi]at h2;cases h2;have e:=zG2 hD h5 hl;have ex:x=(s.final,s.out,ln):=by rw[h3,h4,←e]
  exact hnew k (ex▸List.mem_of_getElem? hx)
 refine⟨by rw[zDe,if_neg hmem],by simp[h.len],fun i x n hi=>?_,zJb h.nd hmem⟩;by_cases hil:i<m.length
 · rw[List.getElem?_append_left hil]at hi
   obtain⟨h1,s',h2,h3⟩:=h.row i x n hi;exact⟨h1,s',by rw[List.getElem?_append_left (List.getElem?_eq_some_iff.1 h2).1];exact h2,h3⟩
 · rw[List.getElem?_append_right (by omega)]at hi
   have hlen:=h.len;cases hi0:i-m.length with
   |zero=>
    rw[hi0]at hi;simp only[List.getElem?_cons_zero,Option.some.injEq,Prod.mk.injEq]at hi;obtain⟨rfl,rfl⟩:=hi;refine⟨by omega,s,?_,rfl,rfl,hl⟩;rw[List.getElem?_append_right (by omega),show i-b.length=0 by omega];rfl
   |succ j=>rw[hi0]at hi;simp at hi
structure Upd(F:Nat→Prop)(w w':World):Prop where
 os:w'.os=w.os
 tape:w'.tape=w.tape
 output:w'.output=w.output
 size:w.heap.size≤w'.heap.size
 block:∀k,k<w.heap.size→¬F k→w'.heap[k]?=w.heap[k]?
theorem Upd.refl(F:Nat→Prop)(w:World):Upd F w w:=⟨rfl,rfl,rfl,Nat.le_refl _,fun _ _ _=>rfl⟩
theorem Upd.trans{F G:Nat→Prop}{a b c:World}(h1:Upd F a b)(h2:Upd G b c)(hG:∀k,k<a.heap.size→G k→F k):Upd F a c:=
 ⟨h2.os.trans h1.os,h2.tape.trans h1.tape,h2.output.trans h1.output,Nat.le_trans h1.size h2.size,fun k hk hF=>(h2.block k (Nat.lt_of_lt_of_le hk h1.size) (fun g=>hF (hG k hk g))).trans (h1.block k hk hF)⟩
theorem Upd.of_below{F:Nat→Prop}{w w':World}(h:Below w.heap.size w w'):Upd F w w':=⟨h.os,h.tape,h.output,h.size,fun k hk _=>h.block k hk⟩
theorem Upd.mono{F G:Nat→Prop}{w w':World}(h:Upd F w w')(hG:∀k,F k→G k):Upd G w w':=⟨h.os,h.tape,h.output,h.size,fun k hk hF=>h.block k hk (fun f=>hF (hG k f))⟩
theorem Upd.below{F:Nat→Prop}{w w':World}(h:Upd F w w'){E:Nat}(hE:E≤w.heap.size)(hF:∀k,F k→E≤k):Below E w w':=
 ⟨h.os,h.tape,h.output,h.size,fun k hk=>h.block k (Nat.lt_of_lt_of_le hk hE) (fun f=>by have:=hF k f;omega)⟩
structure BAt(A:Nat→Prop)(E:Nat)(w:World)(g g1 g2:Nat)(vs:Value)(b:List St)(m1:List (SK×Nat))(m2:List (LK×Nat))(D:List (List Arc)):Prop where
 blk:w.heap[g]?=some (.cells #[vs,.map (some g1),.map (some g2)] 113 (0,0))
 row:∃xss,GOwn 91 3 E w vs xss∧xss.length=b.length∧∀(i:Nat) (s:St),b[i]?=some s→∃va,xss[i]?=some [.bool s.final,.int .i64 s.out,va]∧AOwn E w va s.arcs∧∀k,va.ownBlock=some k→A k
 mp1:KMapAt 214 valK w g1 m1
 mp2:KMapAt 248 valL w g2 m2
 li:LInv m2 D
 ni:NInv m1 D b
 ne:g1≠g2
 lo:E≤g∧E≤g1∧E≤g2
def fpB(g g1 g2:Nat)(vs:Value)(k:Nat):Prop:=k=g∨k=g1∨k=g2∨vs.ownBlock=some k
section
variable {A:Nat→Prop} {E g g1 g2:Nat} {w w':World} {vs:Value} {b:List St} {m1:List (SK×Nat)} {m2:List (LK×Nat)} {D:List (List Arc)}
theorem AOwn.typed{B:Nat}{v:Value}{l:List Arc}(h:AOwn B w v l)(hs:∀(k:Nat) (cur:Array Value),w.heap[k]?=some (Obj.cells cur 126 (0,0))→w'.heap[k]?=w.heap[k]?):AOwn B w' v l:=
 GOwn.same h fun g hg=>by obtain⟨_,cur,h1⟩:=GOwn.block h hg;exact hs g cur h1
theorem BAt.lt(h:BAt A E w g g1 g2 vs b m1 m2 D):g<w.heap.size∧g1<w.heap.size∧g2<w.heap.size:=⟨(Array.getElem?_eq_some_iff.1 h.blk).1,h.mp1.lt,h.mp2.lt⟩
theorem BAt.fp_lo(h:BAt A E w g g1 g2 vs b m1 m2 D):∀k,fpB g g1 g2 vs k→E≤k:=by
 rintro k (rfl|rfl|rfl|hk)
 · exact h.lo.1
 · exact h.lo.2.1
 · exact h.lo.2.2
 · obtain⟨xss,ho,_⟩:=h.row
   exact(ho.block hk).1
theorem BAt.fp_lt(h:BAt A E w g g1 g2 vs b m1 m2 D):∀k,fpB g g1 g2 vs k→k<w.heap.size:=by
 rintro k (rfl|rfl|rfl|hk)
 · exact h.lt.1
 · exact h.lt.2.1
 · exact h.lt.2.2
 · obtain⟨xss,ho,_⟩:=h.row
   exact ho.lt hk
theorem BAt.below(h:BAt A E w g g1 g2 vs b m1 m2 D)(hb:Below w.heap.size w w'):BAt A E w' g g1 g2 vs b m1 m2 D:=by
 have hl:=h.lt;obtain⟨xss,ho,h1,h2⟩:=h.row;refine⟨(hb.block g hl.1).trans h.blk,⟨xss,ho.below hb,h1,fun i s hi=>?_⟩,h.mp1.same (hb.block _ hl.2.1),h.mp2.same (hb.block _ hl.2.2),h.li,h.ni,h.ne,h.lo⟩;obtain⟨va,h3,h4,h5⟩:=h2 i s hi;exact⟨va,h3,GOwn.below h4 hb,h5⟩
theorem BAt.cells(h:BAt A E w g g1 g2 vs b m1 m2 D):w.cell? ⟨g,0,none⟩=some vs∧w.cell? ⟨g,1,none⟩=some (.map (some g1))∧w.cell? ⟨g,2,none⟩=some (.map (some g2)):=by
 simp[World.cell?,h.blk]
theorem BAt.lists(h:BAt A E w g g1 g2 vs b m1 m2 D){m2':List (LK×Nat)}{D':List (List Arc)}(hs:∀k,k<w.heap.size→k≠g2→w'.heap[k]?=w.heap[k]?)(hm:KMapAt 248 valL w' g2 m2')(hl:LInv m2' D')(hD:D<+:D'):BAt A E w' g g1 g2 vs b m1 m2' D':=by
 have hlt:=h.lt;obtain⟨es,ck,hob⟩:=h.mp2.obj;have hne:∀{k:Nat} {cur:Array Value} {T:TypeId} {z:Nat×Nat},w.heap[k]?=some (.cells cur T z)→k≠g2:=fun hk e=>by rw[e,hob]at hk;cases hk
 obtain⟨xss,ho,h1,h2⟩:=h.row;refine⟨(hs g hlt.1 (hne h.blk)).trans h.blk,⟨xss,ho.same fun k hk=>?_,h1,fun i s hi=>?_⟩,h.mp1.same (hs g1 hlt.2.1 h.ne),hm,hl,h.ni.more hD,h.ne,h.lo⟩
 · obtain⟨_,cur,hc⟩:=ho.block hk
   exact hs k (ho.lt hk) (hne hc)
 · obtain⟨va,h3,h4,h5⟩:=h2 i s hi
   exact⟨va,h3,AOwn.typed h4 fun k cur hc=>hs k (Array.getElem?_eq_some_iff.1 hc).1 (hne hc),h5⟩
theorem BAt.keepJ(h:BAt A E w g g1 g2 vs b m1 m2 D){J:Nat→Prop}(hs:∀k,k<w.heap.size→¬J k→w'.heap[k]?=w.heap[k]?)(hJ:∀k,J k→¬fpB g g1 g2 vs k∧¬A k):BAt A E w' g g1 g2 vs b m1 m2 D:=by
 have hlt:=h.lt;have hn:∀k,fpB g g1 g2 vs k→¬J k:=fun k hk e=>(hJ k e).1 hk
 obtain⟨xss,ho,h1,h2⟩:=h.row;refine⟨(hs g hlt.1 (hn g (.inl rfl))).trans h.blk,⟨xss,ho.same fun k hk=>hs k (ho.lt hk) (hn k (.inr (.inr (.inr hk)))),h1,fun i s hi=>?_⟩,h.mp1.same (hs g1 hlt.2.1 (hn g1 (.inr (.inl rfl)))),h.mp2.same (hs g2 hlt.2.2 (hn g2 (.inr (.inr (.inl rfl))))),h.li,h.ni,h.ne,h.lo⟩;obtain⟨va,h3,h4,h5⟩:=h2 i s hi;exact⟨va,h3,GOwn.same h4 fun k hk=>hs k (GOwn.lt h4 hk) (fun e=>(hJ k e).2 (h5 k hk)),h5⟩
theorem BAt.wide(h:BAt A E w g g1 g2 vs b m1 m2 D){A':Nat→Prop}(hA:∀k,A k→A' k):BAt A' E w g g1 g2 vs b m1 m2 D:=by
 obtain⟨xss,ho,h1,h2⟩:=h.row;refine⟨h.blk,⟨xss,ho,h1,fun i s hi=>?_⟩,h.mp1,h.mp2,h.li,h.ni,h.ne,h.lo⟩;obtain⟨va,h3,h4,h5⟩:=h2 i s hi;exact⟨va,h3,h4,fun k hk=>hA k (h5 k hk)⟩
theorem BAt.arc_free(h:BAt A E w g g1 g2 vs b m1 m2 D){k:Nat}{cur:Array Value}(hk:w.heap[k]?=some (Obj.cells cur 126 (0,0))):¬fpB g g1 g2 vs k:=by
 rintro(rfl|rfl|rfl|e)
 · rw[h.blk]at hk
   simp only[Option.some.injEq,Obj.cells.injEq]at hk;exact absurd hk.2.1 (by decide)
 · obtain⟨es,ck,hob⟩:=h.mp1.obj
   rw[hob]at hk;cases hk
 · obtain⟨es,ck,hob⟩:=h.mp2.obj
   rw[hob]at hk;cases hk
 · obtain⟨xss,ho,_⟩:=h.row
   obtain⟨_,cur',hc⟩:=ho.block e;rw[hk]at hc;simp only[Option.some.injEq,Obj.cells.injEq]at hc;exact absurd hc.2.1 (by decide)
end
theorem zQ6{P:Program}(ρ:Operand→Value)(x y z:Operand)(t:TypeId)(dst:Option Tmp)(ty:TypeId)(pos:String)(af:Array Edge)(g:Option (Nat×Bool))(w:World):
 (execOp ρ ⟨dst,.mapUpdate t x y z,ty,pos,af,g⟩).run P w=((Instr.mapUpdate t (ρ x) (ρ y) (ρ z)).run P w).andThen (fun _ w' => .ok .skip w'):=by
 simp only[execOp,Sem.run_bind,Sem.run_pure]
end
section
open Go.RowKit Nums Fm
theorem AOwn.at{B:Nat}{w:World}{v:Value}{l:List Arc}(h:AOwn B w v l)(h0:0<l.length):∃g cap,v = .slice (some ⟨g,0,none⟩) l.length cap∧g<w.heap.size∧l.length≤cap∧(∃cur,w.heap[g]?=some (.cells cur 126 (0,0))) ∧
 ∀(i:Nat) (a:Arc),l[i]?=some a→w.cell? ⟨g,i*3,none⟩=some (.int .i32 a.label)∧w.cell? ⟨g,i*3+1,none⟩=some (.int .i64 a.out)∧w.cell? ⟨g,i*3+2,none⟩=some (.int .i64 a.to):=by
 obtain⟨g,cap,rfl,hg,_,hc,hx⟩:=GOwn.cell h (by simpa using h0);refine⟨g,cap,by simp,hg,by simpa using hc,(GOwn.block h rfl).2,fun i a hi=>?_⟩;have e:(l.map zDj)[i]?=some (zDj a):=by rw[List.getElem?_map,hi];rfl
 exact⟨hx i 0 _ _ e rfl,hx i 1 _ _ e rfl,hx i 2 _ _ e rfl⟩
structure SL(g g2 lb n:Nat)(a:Arc)(w:World):Prop where
 c:w.cell? ⟨g,2,none⟩=some (.map (some g2))
 l0:w.cell? ⟨lb,0,none⟩=some (.int .i64 n)
 l1:w.cell? ⟨lb,1,none⟩=some (.int .i32 a.label)
 l2:w.cell? ⟨lb,2,none⟩=some (.int .i64 a.out)
 l3:w.cell? ⟨lb,3,none⟩=some (.int .i64 a.to)
theorem SL.facts{g g2 lb n:Nat}{a:Arc}{w:World}(h:SL g g2 lb n a w):w.cell? ⟨g,2,none⟩=some (.map (some g2))∧w.cell? ⟨lb,0,none⟩=some (.int .i64 n)∧w.cell? ⟨lb,1,none⟩=some (.int .i32 a.label)∧w.cell? ⟨lb,2,none⟩=some (.int .i64 a.out)∧w.cell? ⟨lb,3,none⟩=some (.int .i64 a.to):=⟨h.c,h.l0,h.l1,h.l2,h.l3⟩
theorem zQm:Tryz.prog.underlying 111=some (.map 248 3):=Tryz.underlying111
structure LRound(A:Nat→Prop)(E g g1 g2:Nat)(vs:Value)(b:List St)(m1:List (SK×Nat))(m2:List (LK×Nat))(D:List (List Arc))(w wr:World)(l:List Arc)(j n:Nat):Prop where
 ex:∃m2' D',BAt A E wr g g1 g2 vs b m1 m2' D'∧m2'.length≤m2.length+j∧D<+:D'∧D'[n]?=some (l.take j)
 upd:Upd (fun k=>k=g2) w wr
theorem zQq(A:Nat→Prop)(E g g1 g2 B:Nat)(vs:Value)(b:List St)(m1:List (SK×Nat))(m2:List (LK×Nat))(D:List (List Arc))(w:World)(v:Value)(l:List Arc)(h:BAt A E w g g1 g2 vs b m1 m2 D)(hv:AOwn B w v l)(hok:∀a∈l,zXr a)(hl:m2.length+l.length<1099511627776):
 Calls Tryz.prog 140 #[.pointer (some ⟨g,0,none⟩),v] w fun e w'=>∃(n:Nat) (m2':List (LK×Nat)) (D':List (List Arc)),e = .returned (.int .i64 n)∧BAt A E w' g g1 g2 vs b m1 m2' D'∧m2'.length≤m2.length+l.length∧D<+:D'∧D'[n]?=some l∧Upd (fun k=>k=g2) w w':=by
 obtain⟨ad,cap,rfl,hcap⟩:=GOwn.shape hv;rw[List.length_map]at hv hcap ⊢;have HV:Hid (AOwn B w (.slice ad l.length cap) l):=hv;obtain⟨n,hn⟩:∃n,l.length=n:=⟨_,rfl⟩;have HN:Hid (l.length=n):=hn;rw[hn]at HV hl hcap;have HS:Hid (LRound A E g g1 g2 vs b m1 m2 D w w l 0 0):=⟨⟨m2,D,h,by omega,List.prefix_refl _,by rw[h.li.zero];rfl⟩,Upd.refl _ _⟩;have HOK:Hid (∀a∈l,zXr a):=hok;obtain⟨es,ck,hob⟩:=h.mp2.obj;have HOB:Hid (w.heap[g2]?=some (.map es ck)):=hob;have HG2:Hid (g2<w.heap.size):=h.lt.2.2;rw[hn];clear h hv hn hok hob;go_enter Tryz.func140,Tryz.ntmps140;go_wp2
 go_loopg [5,7,8,9,10,13] n (fun gm s5 _ _ _ _ s13 wr=>∃(j q:Nat),s13 = .int .i64 j∧s5 = .int .i64 q∧j≤n∧n-j≤gm∧Hid (LRound A E g g1 g2 vs b m1 m2 D w wr l j q))
 case atStart=>exact⟨0,0,rfl,rfl,Nat.zero_le _,by omega,HS⟩
 case round=>
  obtain⟨j,q,rfl,rfl,hj,hgm,HR⟩:=hrel;by_cases hlt:j<n
  · have hltz:(j:Int)<(n:Int):=by omega
    obtain⟨a,ha⟩:∃a,l[j]?=some a:=⟨l[j]'(by have:=HN.out;omega),List.getElem?_eq_getElem _⟩;obtain⟨m2',D',hB,hm2,hD,hq⟩:=HR.out.ex;(have hVr:AOwn B wr (.slice ad n cap) l:=AOwn.typed HV.out fun k cur hk=>HR.out.upd.block k (Array.getElem?_eq_some_iff.1 hk).1 fun e=>by subst e;rw[HOB.out]at hk;cases hk);obtain⟨ga,ca,ea,hga,_,_,hcell⟩:=hVr.at (by have:=HN.out;omega);simp only[Value.slice.injEq]at ea;obtain⟨rfl,hnl,rfl⟩:=ea;obtain⟨c0,c1,c2⟩:=hcell j a ha;obtain⟨o1,o2,o3⟩:=HOK.out a (List.mem_of_getElem? ha);(have hmn:m2'.length<1099511627776:=by omega);obtain⟨lit,hlit⟩:=key_L (q,a) (by have h1:=hB.li.len;have h2:=(List.getElem?_eq_some_iff.1 hq).1;constructor<;>simp only<;>omega) o1 o2 o3;have HLIT:Hid (keyOf Tryz.prog 248 (valL (q,a))=some lit):=hlit;have HBr:Hid (BAt A E wr g g1 g2 vs b m1 m2' D'):=hB;have HQ:Hid (D'[q]?=some (l.take j)):=hq;have HM2:Hid (m2'.length≤m2.length+j):=hm2;have HDD:Hid (D<+:D'):=hD;(have HTK:Hid (l.take (j+1)=l.take j++[a]):=by show _=_;rw[List.take_add_one,ha];rfl);clear hnl hcell ha hVr hB hq hm2 hD hlit o1 o2 o3;(go_upto_region 6 with fail);obtain⟨W,hW⟩:∃W,W=(wr.alloc (.cells #[.int .i32 a.label,.int .i64 a.out,.int .i64 a.to] 126)).alloc (.cells #[.int .i64 q,.int .i32 a.label,.int .i64 a.out,.int .i64 a.to] 248):=⟨_,rfl⟩;obtain⟨lb,hlb⟩:∃lb,lb=wr.heap.size+1:=⟨_,rfl⟩;rw[←hW,←hlb];(have HbW:Hid (Below wr.heap.size wr W):=by show Below _ _ _;rw[hW];exact((Below.refl _ wr).alloc (Nat.le_refl _) _).alloc (by simp) _);have HBW:Hid (BAt A E W g g1 g2 vs b m1 m2' D'):=HBr.out.below HbW.out;have hSL:SL g g2 lb q a W:=by
     (have hn:(wr.alloc (.cells #[.int .i32 a.label,.int .i64 a.out,.int .i64 a.to] 126)).heap.size=lb:=by rw[hlb];simp);(have hh:W.heap[lb]?=some (.cells #[.int .i64 q,.int .i32 a.label,.int .i64 a.out,.int .i64 a.to] 248):=by rw[hW,←hn];exact zAb _ _);exact⟨HBW.out.cells.2.2,by simp[World.cell?,hh],by simp[World.cell?,hh],by simp[World.cell?,hh],by simp[World.cell?,hh]⟩
    have HUW:Hid (Upd (fun k=>k=g2) w W):=HR.out.upd.trans (G:=fun k=>k=g2) (Upd.of_below HbW.out) (fun _ _ e=>e);have HSL:Hid (SL g g2 lb q a W):=hSL;obtain⟨s0,s1,s2,s3,s4⟩:=hSL.facts;clear hSL hW c0 c1 c2 hlb;by_cases hex:∃k,((q,a),k)∈m2'
    · obtain⟨k,hk⟩:=hex
      have hDk:D'[k]?=some (l.take (j+1)):=by rw[HTK.out];exact HBW.out.li.found hk HQ.out
      have hlook:∀nq,(Instr.lookup 111 (.map (some g2)) (.agg #[.int .i64 q,.int .i32 a.label,.int .i64 a.out,.int .i64 a.to]) true).run Tryz.prog (W.drewN nq) = .ok (.tuple #[.int .i64 k,.bool true]) (W.drewN nq):=fun nq=>
       (show KMapAt 248 valL (W.drewN nq) g2 m2' from HBW.out.mp2).look_old (x:=(q,a)) zVn zQm HLIT.out (fun y hy=>zJy hy) hk (fun k' hk'=>zG2 HBW.out.li.nd (HBW.out.li.found hk' HQ.out) (by rw[←HTK.out];exact hDk))
      (have HN2:Hid (∀nq,LRound A E g g1 g2 vs b m1 m2 D w (W.drewN nq) l (j+1) k):=fun nq=>⟨⟨m2',D',HBW.out.below (belowN (Below.refl _ W) nq),by have:=HM2.out;omega,HDD.out,hDk⟩,HUW.out.trans (G:=fun k=>k=g2) (Upd.of_below (belowN (Below.refl _ W) nq)) (fun _ _ e=>e)⟩);clear hk hDk;go_quiet (fail);go_wp2;go_roundg (n-(j+1));(case measure=>omega);case rel=>exact⟨j+1,k,by go_num,rfl,by omega,Nat.le_refl _,HN2.out _⟩
    · have hnew:∀k,((q,a),k)∉m2':=fun k hk=>hex ⟨k,hk⟩
      have HNEW:Hid (∀k,((q,a),k)∉m2'):=hnew
      have hlook:∀nq,(Instr.lookup 111 (.map (some g2)) (.agg #[.int .i64 q,.int .i32 a.label,.int .i64 a.out,.int .i64 a.to]) true).run Tryz.prog (W.drewN nq) = .ok (.tuple #[.int .i64 0,.bool false]) (W.drewN nq):=fun nq=>
       (show KMapAt 248 valL (W.drewN nq) g2 m2' from HBW.out.mp2).look_new (x:=(q,a)) zVn zQm HLIT.out (fun y hy=>zJy hy) hnew
      clear hnew hex;go_quiet (fail);go_upto_region 8 with fail
      have hlen:∀ty,(Builtin.len_ #[111] ty #[.map (some g2)]).run Tryz.prog (W.drewN nq) = .ok (.int .i64 (m2'.length:Int)) (W.drewN nq):=fun ty=>
       (show KMapAt 248 valL (W.drewN nq) g2 m2' from HBW.out.mp2).len zQm ty
      obtain⟨mn,hmne⟩:∃mn,mn=m2'.length:=⟨_,rfl⟩;have HMN:Hid (mn=m2'.length):=hmne;rw[←hmne]at hlen hmn;clear hmne hlook;(go_upto_region 9 with fail);obtain⟨W3,hupd,hK3,t1,t2,t3,t4,t5⟩:=(show KMapAt 248 valL (W.drewN nq).drew g2 m2' from HBW.out.mp2).store (x:=(q,a)) zVn zQm HLIT.out (fun y hy=>zJy hy) HNEW.out (mn+1);have HUPD:Hid ((Instr.mapUpdate 111 (.map (some g2)) (.agg #[.int .i64 q,.int .i32 a.label,.int .i64 a.out,.int .i64 a.to]) (.int .i64 ((mn:Int)+1))).run Tryz.prog (W.drewN nq).drew = .ok () W3):=hupd;obtain⟨es3,ck3,hob3⟩:=HBW.out.mp2.obj;(have hnc:∀{k:Nat} {cur:Array Value} {T:TypeId} {z:Nat×Nat},W.heap[k]?=some (.cells cur T z)→k≠g2:=fun hk e=>by rw[e,hob3]at hk;cases hk);have hlb2:lb≠g2:=by
       intro e;have:=HSL.out.l0;rw[e]at this;simp[World.cell?,hob3]at this
      have hgg2:g≠g2:=hnc HBW.out.blk;have hS3:SL g g2 lb q a W3:=by
       have e1:=t5 g hgg2;have e2:=t5 lb hlb2;exact⟨(World.cell?_of_block (a:=⟨g,2,none⟩) e1).trans HSL.out.c,(World.cell?_of_block (a:=⟨lb,0,none⟩) e2).trans HSL.out.l0,(World.cell?_of_block (a:=⟨lb,1,none⟩) e2).trans HSL.out.l1,(World.cell?_of_block (a:=⟨lb,2,none⟩) e2).trans HSL.out.l2,(World.cell?_of_block (a:=⟨lb,3,none⟩) e2).trans HSL.out.l3⟩
      have HNX:Hid (LRound A E g g1 g2 vs b m1 m2 D w W3 l (j+1) (mn+1)):=by
       show LRound _ _ _ _ _ _ _ _ _ _ _ _ _ _ _;obtain⟨l1,l2⟩:=HBW.out.li.add HNEW.out HQ.out;rw[HMN.out]at hK3 ⊢;rw[←HTK.out]at l1 l2;exact⟨⟨_,_,HBW.out.lists (fun k _ hk=>t5 k hk) hK3 l1 (List.prefix_append _ _),by have:=HM2.out;simp;omega,HDD.out.trans (List.prefix_append _ _),l2⟩,HUW.out.trans (G:=fun k=>k=g2) ⟨t1,t2,t3,Nat.le_of_eq t4.symm,fun k _ hk=>t5 k hk⟩ (fun _ _ e=>e)⟩
      have hS0:SL g g2 lb q a (W.drewN nq).drew:=⟨HSL.out.c,HSL.out.l0,HSL.out.l1,HSL.out.l2,HSL.out.l3⟩;clear hupd hK3 t1 t2 t3 t4 t5 hob3 hnc hlb2 hgg2 s0 s1 s2 s3 s4 hlen;refine zAf (S:=SL g g2 lb q a) 7 rfl zAn hS0 (fun hHeld=>?_);refine tq4 SL.facts 0 37 1 38 2 39 3 40 ?_;simp only[sZa,sZb,sZc];refine tq2 SL.facts 4 41 5 42 ?_;simp only[sZa,sZb,sZc];refine zB0 (i:=6) (w':=W3) (by kernel_rfl) rfl rfl (by rfl) ((zQ6 _ _ _ _ _ _ _ _ _ _ _).trans (congrArg (fun r=>Result.andThen r _) HUPD.out)) hS3 (fun _=>?_);refine wpAnyH_done (by kernel_rfl) ?_ _;go_wp2;go_roundg (n-(j+1));(case measure=>omega);case rel=>exact⟨j+1,mn+1,by go_num,by go_num,by omega,Nat.le_refl _,HNX⟩
  · have hltz:¬(j:Int)<(n:Int):=by omega
    obtain⟨m2',D',hB,hm2,hD,hq⟩:=HR.out.ex;have HF:Hid (BAt A E wr g g1 g2 vs b m1 m2' D'∧m2'.length≤m2.length+n∧D<+:D'∧D'[q]?=some l∧Upd (fun k=>k=g2) w wr):=⟨hB,by omega,hD,by rw[hq,List.take_of_length_le (by have:=HN.out;omega)],HR.out.upd⟩;clear hB hm2 hD hq;go_wp2;go_ret;exact⟨q,rfl,m2',D',HF.out⟩
end
section
open Go.RowKit Nums Fm
structure TriAt(w:World)(b:Nat)(x y z:Value):Prop where
 c0:w.cell? ⟨b,0,none⟩=some x
 c1:w.cell? ⟨b,1,none⟩=some y
 c2:w.cell? ⟨b,2,none⟩=some z
theorem TriAt.of{w:World}{b:Nat}{x y z:Value}{T:TypeId}{q:Nat×Nat}(h:w.heap[b]?=some (.cells #[x,y,z] T q)):TriAt w b x y z:=⟨by simp[World.cell?,h],by simp[World.cell?,h],by simp[World.cell?,h]⟩
theorem TriAt.same{w w':World}{b:Nat}{x y z:Value}(h:TriAt w b x y z)(e:w'.heap[b]?=w.heap[b]?):TriAt w' b x y z:=
 ⟨(World.cell?_of_block (a:=⟨b,0,none⟩) e).trans h.c0,(World.cell?_of_block (a:=⟨b,1,none⟩) e).trans h.c1,(World.cell?_of_block (a:=⟨b,2,none⟩) e).trans h.c2⟩
theorem TriAt.facts{w:World}{b:Nat}{x y z:Value}(h:TriAt w b x y z):w.cell? ⟨b,0,none⟩=some x∧w.cell? ⟨b,1,none⟩=some y∧w.cell? ⟨b,2,none⟩=some z:=⟨h.c0,h.c1,h.c2⟩
theorem zAc(w:World)(b o:Nat)(x:Value){k:Nat}(hk:k≠b):(w.setCell ⟨b,o,none⟩ x).heap[k]?=w.heap[k]?:=by
 show(w.heap.modify b _)[k]?=_;rw[Array.getElem?_modify,if_neg (Ne.symm hk)]
theorem zAu{w:World}{b o:Nat}{cur:Array Value}{T:TypeId}{q:Nat×Nat}(h:w.heap[b]?=some (.cells cur T q))(x:Value):(w.setCell ⟨b,o,none⟩ x).heap[b]?=some (.cells (cur.setIfInBounds o x) T q):=by
 show(w.heap.modify b _)[b]?=_;rw[Array.getElem?_modify,if_pos rfl,h];rfl
theorem zA3(w:World)(b o:Nat)(x:Value):(w.setCell ⟨b,o,none⟩ x).os=w.os∧(w.setCell ⟨b,o,none⟩ x).tape=w.tape∧(w.setCell ⟨b,o,none⟩ x).output=w.output∧(w.setCell ⟨b,o,none⟩ x).heap.size=w.heap.size:=by
 refine⟨rfl,rfl,rfl,?_⟩;show(w.heap.modify b _).size=_;rw[Array.size_modify]
def tri(w:World)(b:Nat)(x y z:Value):World:=((w.setCell ⟨b,0,none⟩ x).setCell ⟨b,1,none⟩ y).setCell ⟨b,2,none⟩ z
theorem tri_at{w:World}{b:Nat}{a0 a1 a2:Value}{T:TypeId}{q:Nat×Nat}(h:w.heap[b]?=some (.cells #[a0,a1,a2] T q))(x y z:Value):(tri w b x y z).heap[b]?=some (.cells #[x,y,z] T q):=by
 unfold tri;rw[zAu (zAu (zAu h x) y) z];rfl
theorem zTk(w:World)(b:Nat)(x y z:Value):Upd (fun k=>k=b) w (tri w b x y z):=by
 have h1:=zA3 w b 0 x;have h2:=zA3 (w.setCell ⟨b,0,none⟩ x) b 1 y;have h3:=zA3 ((w.setCell ⟨b,0,none⟩ x).setCell ⟨b,1,none⟩ y) b 2 z;refine⟨h3.1.trans (h2.1.trans h1.1),h3.2.1.trans (h2.2.1.trans h1.2.1),h3.2.2.1.trans (h2.2.2.1.trans h1.2.2.1),Nat.le_of_eq (h3.2.2.2.trans (h2.2.2.2.trans h1.2.2.2)).symm,fun k _ hk=>?_⟩;unfold tri;rw[zAc _ _ _ _ hk,zAc _ _ _ _ hk,zAc _ _ _ _ hk]
theorem zU3:Tryz.prog.underlying 110=some (.map 214 3):=Tryz.underlying110
section
variable {A:Nat→Prop} {E g g1 g2:Nat} {w w':World} {vs:Value} {b:List St} {m1:List (SK×Nat)} {m2:List (LK×Nat)} {D:List (List Arc)}
theorem BAt.push(h:BAt A E w g g1 g2 vs b m1 m2 D){xss:List (List Value)}(ho:GOwn 91 3 E w vs xss)(hxl:xss.length=b.length)(hxe:∀(i:Nat) (s:St),b[i]?=some s→∃va,xss[i]?=some [.bool s.final,.int .i64 s.out,va]∧AOwn E w va s.arcs∧∀k,va.ownBlock=some k→A k)
 {s:St} {ln:Nat} {va v':Value} (hs:∀k,k<w.heap.size→k≠g→k≠g1→vs.ownBlock≠some k→w'.heap[k]?=w.heap[k]?) (hg:w'.heap[g]?=some (.cells #[v',.map (some g1),.map (some g2)] 113 (0,0)))
 (hm:KMapAt 214 valK w' g1 (m1++[((s.final,s.out,ln),b.length)])) (ho':GOwn 91 3 E w' v' (xss++[[.bool s.final,.int .i64 s.out,va]])) (ha:AOwn E w' va s.arcs) (hl:D[ln]?=some s.arcs) (hnew:∀k,((s.final,s.out,ln),k)∉m1):
 BAt (fun k=>A k∨va.ownBlock=some k) E w' g g1 g2 v' (b++[s]) (m1++[((s.final,s.out,ln),b.length)]) m2 D:=by
 have hlt:=h.lt;obtain⟨es1,ck1,hob1⟩:=h.mp1.obj;obtain⟨es2,ck2,hob2⟩:=h.mp2.obj;have hvs2:vs.ownBlock≠some g2:=fun e=>by obtain⟨_,cur,hc⟩:=ho.block e;rw[hob2]at hc;cases hc
 have hgg2:g2≠g:=fun e=>by have:=h.blk;rw[←e,hob2]at this;cases this
 have harc:∀(k:Nat) (cur:Array Value),w.heap[k]?=some (Obj.cells cur 126 (0,0))→w'.heap[k]?=w.heap[k]?:=fun k cur hk=>by
  refine hs k (Array.getElem?_eq_some_iff.1 hk).1 (fun e=>?_) (fun e=>?_) (fun e=>?_)
  · subst e
    rw[h.blk]at hk;simp only[Option.some.injEq,Obj.cells.injEq]at hk;exact absurd hk.2.1 (by decide)
  · subst e;rw[hob1]at hk;cases hk
  · obtain⟨_,cur',hc⟩:=ho.block e
    rw[hk]at hc;simp only[Option.some.injEq,Obj.cells.injEq]at hc;exact absurd hc.2.1 (by decide)
 refine⟨hg,⟨_,ho',by simp[hxl],fun i t hi=>?_⟩,hm,h.mp2.same (hs g2 hlt.2.2 hgg2 (Ne.symm h.ne) hvs2),h.li,(h.ni.add h.li.nd hnew hl).2,h.ne,h.lo⟩;by_cases hil:i<b.length
 · rw[List.getElem?_append_left hil]at hi
   obtain⟨va,h1,h2,h3⟩:=hxe i t hi;exact⟨va,by rw[List.getElem?_append_left (by omega)];exact h1,AOwn.typed h2 harc,fun k hk => .inl (h3 k hk)⟩
 · rw[List.getElem?_append_right (by omega)]at hi
   cases hi0:i-b.length with
   |zero=>
    rw[hi0]at hi;simp only[List.getElem?_cons_zero,Option.some.injEq]at hi;subst hi;exact⟨va,by rw[List.getElem?_append_right (by omega),hxl,hi0];rfl,ha,fun k hk => .inr hk⟩
   |succ j=>rw[hi0]at hi;simp at hi
end
structure NumSays(A:Nat→Prop)(E g g1 g2:Nat)(vs:Value)(b:List St)(m2:List (LK×Nat))(s:St)(va:Value)(w w':World)(k:Nat):Prop where
 ex:∃vs' m1' m2' D',BAt (fun k=>A k∨va.ownBlock=some k) E w' g g1 g2 vs' (zDe b s).1 m1' m2' D'∧m2'.length≤m2.length+s.arcs.length∧Upd (fpB g g1 g2 vs) w w'∧(vs'.ownBlock=vs.ownBlock∨∃j,vs'.ownBlock=some j∧w.heap.size≤j)
 num:(zDe b s).2=k
structure S5(g g1 kb:Nat)(x y z:Value)(w:World):Prop where
 c:w.cell? ⟨g,1,none⟩=some (.map (some g1))
 k:TriAt w kb x y z
theorem S5.facts{g g1 kb:Nat}{x y z:Value}{w:World}(h:S5 g g1 kb x y z w):w.cell? ⟨g,1,none⟩=some (.map (some g1))∧w.cell? ⟨kb,0,none⟩=some x∧w.cell? ⟨kb,1,none⟩=some y∧w.cell? ⟨kb,2,none⟩=some z:=⟨h.c,h.k.c0,h.k.c1,h.k.c2⟩
structure S6(g bs:Nat)(vs x y z:Value)(w:World):Prop where
 c:w.cell? ⟨g,0,none⟩=some vs
 k:TriAt w bs x y z
theorem S6.facts{g bs:Nat}{vs x y z:Value}{w:World}(h:S6 g bs vs x y z w):w.cell? ⟨g,0,none⟩=some vs∧w.cell? ⟨bs,0,none⟩=some x∧w.cell? ⟨bs,1,none⟩=some y∧w.cell? ⟨bs,2,none⟩=some z:=⟨h.c,h.k.c0,h.k.c1,h.k.c2⟩
structure NumMid(A:Nat→Prop)(E g g1 g2:Nat)(vs:Value)(b:List St)(m1:List (SK×Nat))(m2:List (LK×Nat))(s:St)(va:Value)(w W:World)(bs kb ln:Nat)(m2':List (LK×Nat))(D':List (List Arc)):Prop where
 at':BAt A E W g g1 g2 vs b m1 m2' D'
 len:m2'.length≤m2.length+s.arcs.length
 lnD:D'[ln]?=some s.arcs
 key:W.heap[kb]?=some (.cells #[.bool s.final,.int .i64 s.out,.int .i64 ln] 214)
 box:W.heap[bs]?=some (.cells #[.bool s.final,.int .i64 s.out,va] 91)
 upd:Upd (fun k=>k=g2) w W
 bs0:bs=w.heap.size
 kb0:w.heap.size≤kb
 arcs:AOwn E W va s.arcs
end
section
open Go.RowKit Nums Fm
theorem zCi{P:Program}{ρ:Operand→Value}{x y:Operand}{t:TypeId}{dst:Option Tmp}{ty:TypeId}{pos:String}{af:Array Edge}{g:Option (Nat×Bool)}{w w':World}{v:Value}(h:(Builtin.append_ #[t,t] ty #[ρ x,ρ y]).run P w = .ok v w'):
 (execOp ρ ⟨dst,.call { callee := .builtin .append,args:=#[x,y],argTypes:=#[t,t] },ty,pos,af,g⟩).run P w = .ok (.value v) w':=by
 simp only[execOp,resolve,invoke,builtin,Sem.run_bind,Sem.run_pure,Result.andThen_ok,List.map_toArray,List.map_cons,List.map_nil,h]
theorem zSc(A:Nat→Prop)(E g g1 g2:Nat)(vs:Value)(b:List St)(m1:List (SK×Nat))(m2:List (LK×Nat))(D:List (List Arc))(w:World)(s:St)(va:Value)(h:BAt A E w g g1 g2 vs b m1 m2 D)(hv:AOwn E w va s.arcs)(hok:∀a∈s.arcs,zXr a)(hout:zB3 s.out)(hl:m2.length+s.arcs.length<1099511627776)(hb:b.length<1099511627776)(hal:∀k,A k→k<w.heap.size):
 Calls Tryz.prog 102 #[.pointer (some ⟨g,0,none⟩),.agg #[.bool s.final,.int .i64 s.out,va]] w fun e w'=>∃k:Nat,e = .returned (.int .i64 k)∧NumSays A E g g1 g2 vs b m2 s va w w' k:=by
 obtain⟨ad,cap,rfl,hcap⟩:=GOwn.shape hv;rw[List.length_map]at hv hcap ⊢;obtain⟨na,hna⟩:∃na,s.arcs.length=na:=⟨_,rfl⟩;rw[hna]at hv ⊢;have HL:Hid (m2.length+s.arcs.length<1099511627776):=hl;have HBL:Hid (b.length<1099511627776):=hb;have HO:Hid (zB3 s.out):=hout;have HAL:Hid (∀k,A k→k<w.heap.size):=hal;have HFP:Hid (∀k,fpB g g1 g2 vs k→k<w.heap.size):=h.fp_lt;obtain⟨bs,hbs⟩:∃bs,bs=w.heap.size:=⟨_,rfl⟩;obtain⟨w1,hw1⟩:∃w1,w1=w.alloc (.cells #[.bool s.final,.int .i64 s.out,.slice ad na cap] 91):=⟨_,rfl⟩;have hb1:Below w.heap.size w w1:=by rw[hw1];exact(Below.refl _ w).alloc (Nat.le_refl _) _
 have hbox1:w1.heap[bs]?=some (.cells #[.bool s.final,.int .i64 s.out,.slice ad na cap] 91):=by rw[hw1,hbs];exact zAb _ _
 have HB1:Hid (BAt A E w1 g g1 g2 vs b m1 m2 D):=h.below hb1;have HV1:Hid (AOwn E w1 (.slice ad na cap) s.arcs):=GOwn.below hv hb1;have HOK:Hid (∀a∈s.arcs,zXr a):=hok;have HU1:Hid (Upd (fun k=>k=g2) w w1):=Upd.of_below hb1;have HBX:Hid (w1.heap[bs]?=some (.cells #[.bool s.final,.int .i64 s.out,.slice ad na cap] 91)):=hbox1;have hbne:bs≠g2:=by have:=h.lt.2.2;omega
 have HBS:Hid (bs=w.heap.size∧bs≠g2∧w1.heap.size=bs+1):=⟨hbs,hbne,by rw[hw1,hbs];simp⟩;have hS1:TriAt w1.drew bs (.bool s.final) (.int .i64 s.out) (.slice ad na cap):=(TriAt.of hbox1).same rfl;clear h hv hok hl hb hout hal hna hb1 hbox1 hbne;go_enter Tryz.func102,Tryz.ntmps102;go_upto_region 1 with fail
 rw[←hw1,←hbs];clear hw1 hbs;refine zAf (S:=fun W=>TriAt W bs (.bool s.final) (.int .i64 s.out) (.slice ad na cap)) 11 rfl zAn hS1 (fun _=>?_);refine tq4 TriAt.facts 0 8 1 9 2 10 3 11 ?_;simp only[sZa,sZb,sZc];refine tq2 TriAt.facts 4 12 5 13 ?_;simp only[sZa,sZb,sZc];refine tq TriAt.facts 6 14 ?_;simp only[sZa,sZb,sZc];refine two_at (i:=7) (j:=9) 15 5 (by kernel_rfl) rfl rfl rfl rfl (by rfl) (by rfl) (fun K hK=>?_) (fun K hK=>?_)
 focus
  refine zPp 140 #[.pointer (some ⟨g,0,none⟩),.slice ad na cap] (w0:=w1.drew) (by kernel_rfl) ?_;refine(zQq A E g g1 g2 E vs b m1 m2 D w1.drew _ s.arcs (HB1.out.below ((Below.refl _ w1).drew)) (GOwn.below HV1.out ((Below.refl _ w1).drew)) HOK.out HL.out).mono ?_;rintro e w2 ⟨ln,m2',D',rfl,hB2,hlen2,_,hln2,hU2⟩;have hb2:w2.heap[bs]?=some (.cells #[.bool s.final,.int .i64 s.out,.slice ad na cap] 91):=(hU2.block bs (by have:=HBS.out;show bs<w1.heap.size;omega) HBS.out.2.1).trans HBX.out;have hS2:TriAt w2 bs (.bool s.final) (.int .i64 s.out) (.slice ad na cap):=TriAt.of hb2;refine⟨_,rfl,hK _ w2 hS2 fun _=>?_⟩;simp only[sZa,sZb,sZc];refine tq TriAt.facts 8 16 ?_;simp only[sZa,sZb,sZc];obtain⟨w3,hw3⟩:∃w3,w3=w2.alloc (.cells #[.bool false,.int .i64 0,.int .i64 0] 214):=⟨_,rfl⟩;have hb3:Below w2.heap.size w2 w3:=by rw[hw3];exact(Below.refl _ w2).alloc (Nat.le_refl _) _
  obtain⟨kb,hkb⟩:∃kb,kb=w2.heap.size:=⟨_,rfl⟩;have hk3:w3.heap[kb]?=some (.cells #[.bool false,.int .i64 0,.int .i64 0] 214):=by rw[hw3,hkb];exact zAb _ _
  have hbl2:bs<w2.heap.size:=hS2.c0 |> zAp
  refine zAo (i:=9) (v := .pointer (some ⟨kb,0,none⟩)) (w':=w3) 5 (by kernel_rfl) rfl rfl (by rfl) (by rw[hw3,hkb];go_simp;first|done|exact rfl) (hS2.same (hb3.block bs hbl2)) (fun _=>?_);simp only[sZa,sZb,sZc];obtain⟨q0,q1,q2⟩:=(TriAt.of hk3).facts;have z0:∀o,w3.frozen? ⟨kb,o,none⟩=false:=fun o=>by simp[World.frozen?,hk3]
  obtain⟨W,hW⟩:∃W,W=tri w3 kb (.bool s.final) (.int .i64 s.out) (.int .i64 ln):=⟨_,rfl⟩;have hUW:=zTk w3 kb (.bool s.final) (.int .i64 s.out) (.int .i64 ln);have hKW:=tri_at hk3 (.bool s.final) (.int .i64 s.out) (.int .i64 ln);rw[←hW]at hUW hKW;have hbk:bs≠kb:=by omega
  have hbs3:bs<w3.heap.size:=Nat.lt_of_lt_of_le hbl2 hb3.size;have hbW:W.heap[bs]?=some (.cells #[.bool s.final,.int .i64 s.out,.slice ad na cap] 91):=(hUW.block bs hbs3 hbk).trans ((hb3.block bs hbl2).trans hb2);have hsz2:w.heap.size≤w2.heap.size:=by have h1:=hU2.size;have h2:=HBS.out;have h3:w1.drew.heap.size=w1.heap.size:=rfl;omega
  have HM:Hid (NumMid A E g g1 g2 vs b m1 m2 s (.slice ad na cap) w W bs kb ln m2' D'):=by
   have hB3:=hB2.below hb3;(have hbW3:∀k,k<w3.heap.size→k≠kb→W.heap[k]?=w3.heap[k]?:=fun k h1 h2=>hUW.block k h1 h2);have hBW:BAt A E W g g1 g2 vs b m1 m2' D':=hB3.keepJ (J:=fun k=>k=kb) hbW3 (fun k e=>⟨fun f=>by have:=hB2.fp_lt k f;omega,fun f=>by have h1:=HAL.out k f;have h2:=hsz2;omega⟩);refine⟨hBW,hlen2,hln2,hKW,hbW,?_,HBS.out.1,by omega,?_⟩
   · refine(HU1.out.trans (G:=fun k=>k=g2) (⟨hU2.os,hU2.tape,hU2.output,hU2.size,hU2.block⟩:Upd (fun k=>k=g2) w1 w2) (fun _ _ e=>e)).trans (G:=fun k=>k=kb) ((Upd.of_below hb3:Upd (fun k=>k=kb) w2 w3).trans (G:=fun k=>k=kb) hUW (fun _ _ e=>e)) (fun k hk e=>by omega)
   · have ha2:AOwn E w2 (.slice ad na cap) s.arcs:=AOwn.typed HV1.out fun k cur hk=>hU2.block k (Array.getElem?_eq_some_iff.1 hk).1 (fun e=>by
      subst e;obtain⟨es,ck,hob⟩:=HB1.out.mp2.obj;rw[hob]at hk;cases hk)
     exact AOwn.typed (GOwn.below ha2 hb3) fun k cur hk=>hbW3 k (Array.getElem?_eq_some_iff.1 hk).1 (fun e=>by
      subst e;rw[hk3]at hk;simp only[Option.some.injEq,Obj.cells.injEq]at hk;exact absurd hk.2.1 (by decide))
  refine zB0 (i:=10) (w':=W) (by kernel_rfl) rfl rfl (by rfl) (by rw[hW];unfold tri;go_simp;first|done|exact rfl) (TriAt.of hbW) (fun _=>?_);refine wpAnyH_done (by kernel_rfl) ?_ _;clear hW hUW hKW hbW hbk hbs3 q0 q1 q2 z0 hk3 hb3 hw3 hkb hB2 hU2 hb2 hS2 hln2 hlen2 hbl2 hsz2 hK
 rotate_left
 focus
  obtain⟨w1a,hw1a⟩:∃w1a,w1a=w1.drew.alloc (.cells #[.bool false,.int .i64 0,.int .i64 0] 214):=⟨_,rfl⟩;have hb1a:Below w1.heap.size w1 w1a:=by rw[hw1a];exact((Below.refl _ w1).drew).alloc (by simp) _
  obtain⟨kb,hkb⟩:∃kb,kb=w1.heap.size:=⟨_,rfl⟩;have hk1:w1a.heap[kb]?=some (.cells #[.bool false,.int .i64 0,.int .i64 0] 214):=by rw[hw1a,hkb];exact zAb _ _
  have hbl1:bs<w1.heap.size:=by have:=HBS.out;omega
  have hB1a:=HB1.out.below hb1a;have hkg2:kb≠g2:=by have:=HB1.out.lt.2.2;omega
  have hkbl:kb<w1a.heap.size:=(Array.getElem?_eq_some_iff.1 hk1).1;have hS1a:TriAt w1a bs (.bool s.final) (.int .i64 s.out) (.slice ad na cap):=(TriAt.of HBX.out).same (hb1a.block bs hbl1);refine wp_val (v := .pointer (some ⟨kb,0,none⟩)) (w':=w1a) (by rw[hw1a,hkb];go_simp;first|done|exact rfl) (hK _ w1a hS1a fun _=>?_);simp only[sZa,sZb,sZc];refine oc 7 w1a 15 140 #[.pointer (some ⟨g,0,none⟩),.slice ad na cap] ?_;refine(zQq A E g g1 g2 E vs b m1 m2 D w1a _ s.arcs hB1a (GOwn.below HV1.out hb1a) HOK.out HL.out).mono ?_;rintro e w2 ⟨ln,m2',D',rfl,hB2,hlen2,_,hln2,hU2⟩;have hbs1a:bs<w1a.heap.size:=Nat.lt_of_lt_of_le hbl1 hb1a.size;have hb2:w2.heap[bs]?=some (.cells #[.bool s.final,.int .i64 s.out,.slice ad na cap] 91):=(hU2.block bs hbs1a HBS.out.2.1).trans ((hb1a.block bs hbl1).trans HBX.out);have hS2:TriAt w2 bs (.bool s.final) (.int .i64 s.out) (.slice ad na cap):=TriAt.of hb2;have hk2:w2.heap[kb]?=some (.cells #[.bool false,.int .i64 0,.int .i64 0] 214):=(hU2.block kb hkbl hkg2).trans hk1;refine⟨_,rfl,hS2,fun _=>?_⟩;simp only[sZa,sZb,sZc];refine tq TriAt.facts 8 16 ?_;simp only[sZa,sZb,sZc];obtain⟨q0,q1,q2⟩:=(TriAt.of hk2).facts;have z0:∀o,w2.frozen? ⟨kb,o,none⟩=false:=fun o=>by simp[World.frozen?,hk2]
  obtain⟨W,hW⟩:∃W,W=tri w2 kb (.bool s.final) (.int .i64 s.out) (.int .i64 ln):=⟨_,rfl⟩;have hUW:=zTk w2 kb (.bool s.final) (.int .i64 s.out) (.int .i64 ln);have hKW:=tri_at hk2 (.bool s.final) (.int .i64 s.out) (.int .i64 ln);rw[←hW]at hUW hKW;have hbk:bs≠kb:=by omega
  have hbs2:bs<w2.heap.size:=hS2.c0 |> zAp
  have hbW:W.heap[bs]?=some (.cells #[.bool s.final,.int .i64 s.out,.slice ad na cap] 91):=(hUW.block bs hbs2 hbk).trans hb2;have hsz1:w.heap.size≤kb:=by have h2:=HBS.out;omega
  have HM:Hid (NumMid A E g g1 g2 vs b m1 m2 s (.slice ad na cap) w W bs kb ln m2' D'):=by
   (have hbW3:∀k,k<w2.heap.size→k≠kb→W.heap[k]?=w2.heap[k]?:=fun k h1 h2=>hUW.block k h1 h2);have hBW:BAt A E W g g1 g2 vs b m1 m2' D':=hB2.keepJ (J:=fun k=>k=kb) hbW3 (fun k e=>⟨fun f=>by have:=HB1.out.fp_lt k f;omega,fun f=>by have h1:=HAL.out k f;have h2:=hsz1;omega⟩);refine⟨hBW,hlen2,hln2,hKW,hbW,?_,HBS.out.1,hsz1,?_⟩
   · have hUa:Upd (fun k=>k=g2) w1 w1a:=Upd.of_below hb1a
     refine((HU1.out.trans (G:=fun k=>k=g2) hUa (fun _ _ e=>e)).trans (G:=fun k=>k=g2) hU2 (fun _ _ e=>e)).trans (G:=fun k=>k=kb) hUW (fun k hk e=>by omega)
   · have ha2:AOwn E w2 (.slice ad na cap) s.arcs:=AOwn.typed (GOwn.below HV1.out hb1a) fun k cur hk=>hU2.block k (Array.getElem?_eq_some_iff.1 hk).1 (fun e=>by
      subst e;obtain⟨es,ck,hob⟩:=hB1a.mp2.obj;rw[hob]at hk;cases hk)
     exact AOwn.typed ha2 fun k cur hk=>hbW3 k (Array.getElem?_eq_some_iff.1 hk).1 (fun e=>by
      subst e;rw[hk2]at hk;simp only[Option.some.injEq,Obj.cells.injEq]at hk;exact absurd hk.2.1 (by decide))
  clear hkb hw1a hk1;refine zB0 (i:=10) (w':=W) (by kernel_rfl) rfl rfl (by rfl) (by rw[hW];unfold tri;go_simp;first|done|exact rfl) (TriAt.of hbW) (fun _=>?_);refine wpAnyH_done (by kernel_rfl) ?_ _;clear hW hUW hKW hbW hbk hbs2 q0 q1 q2 z0 hk2 hb1a hB1a hB2 hU2 hb2 hS2 hS1a hln2 hlen2 hbl1 hsz1 hkg2 hkbl hbs1a hK
 all_goals
  have HLN:Hid (zB3 ln):=by
   have h1:=HM.out.at'.li.len;have h2:=(List.getElem?_eq_some_iff.1 HM.out.lnD).1;have h3:=HM.out.len;have h4:=HL.out;constructor<;>omega
  obtain⟨lit,hlit⟩:=key_K (s.final,s.out,ln) HO.out HLN.out;have HLIT:Hid (keyOf Tryz.prog 214 (valK (s.final,s.out,ln))=some lit):=hlit;clear hlit;obtain⟨k0,k1,k2⟩:=(TriAt.of HM.out.key).facts;obtain⟨g0c,g1c,g2c⟩:=HM.out.at'.cells;clear g0c g2c;go_upto_region 2 with fail
  by_cases hex:∃k,((s.final,s.out,ln),k)∈m1
  · obtain⟨k,hk⟩:=hex
    obtain⟨hnum,_⟩:=HM.out.at'.ni.found hk HM.out.lnD
    have hlook:∀nq,(Instr.lookup 110 (.map (some g1)) (.agg #[.bool s.final,.int .i64 s.out,.int .i64 ln]) true).run Tryz.prog (W.drewN nq) = .ok (.tuple #[.int .i64 k,.bool true]) (W.drewN nq):=fun nq=>
     (show KMapAt 214 valK (W.drewN nq) g1 m1 from HM.out.at'.mp1).look_old (x:=(s.final,s.out,ln)) zVo zU3 HLIT.out (fun y hy=>zJz hy) hk (fun k' hk'=>by
      have h1:=(HM.out.at'.ni.found hk' HM.out.lnD).1;rw[hnum]at h1;exact(Prod.mk.inj h1).2.symm)
    (have HEND:Hid (∀nq,NumSays A E g g1 g2 vs b m2 s (.slice ad na cap) w (W.drewN nq) k):=fun nq=>⟨⟨vs,m1,m2',D',by rw[hnum];exact(HM.out.at'.below (belowN (Below.refl _ W) nq)).wide (fun k hk => .inl hk),HM.out.len,(HM.out.upd.mono (fun k hk => .inr (.inr (.inl hk)))).trans (G:=fun _=>False) (Upd.of_below (belowN (Below.refl _ W) nq)) (fun _ _ e=>e.elim),.inl rfl⟩,by rw[hnum]⟩);clear hk hnum;go_quiet (fail);go_wp2;go_ret;exact⟨k,rfl,HEND.out _⟩
  · have HNEW:Hid (∀k,((s.final,s.out,ln),k)∉m1):=fun k hk=>hex ⟨k,hk⟩
    have hlook:∀nq,(Instr.lookup 110 (.map (some g1)) (.agg #[.bool s.final,.int .i64 s.out,.int .i64 ln]) true).run Tryz.prog (W.drewN nq) = .ok (.tuple #[.int .i64 0,.bool false]) (W.drewN nq):=fun nq=>
     (show KMapAt 214 valK (W.drewN nq) g1 m1 from HM.out.at'.mp1).look_new (x:=(s.final,s.out,ln)) zVo zU3 HLIT.out (fun y hy=>zJz hy) HNEW.out
    clear hex;go_quiet (fail);clear hlook;obtain⟨xss,ho,hxl,hxe⟩:=HM.out.at'.row;obtain⟨sd,sc,hvs,_⟩:=ho.shape;rw[hxl]at hvs;obtain⟨nb,hnb⟩:∃nb,b.length=nb:=⟨_,rfl⟩;rw[hnb]at hvs;have HNB:Hid (b.length=nb):=hnb;have g0:=HM.out.at'.cells.1;rw[hvs]at g0;(go_upto_region 5 with fail);obtain⟨W3,hupd,hK3,t1,t2,t3,t4,t5⟩:=(show KMapAt 214 valK (W.drewN nq).drew g1 m1 from HM.out.at'.mp1).store (x:=(s.final,s.out,ln)) zVo zU3 HLIT.out (fun y hy=>zJz hy) HNEW.out nb;have HUPD:Hid ((Instr.mapUpdate 110 (.map (some g1)) (.agg #[.bool s.final,.int .i64 s.out,.int .i64 ln]) (.int .i64 nb)).run Tryz.prog (W.drewN nq).drew = .ok () W3):=hupd;obtain⟨es1,ck1,hob1⟩:=HM.out.at'.mp1.obj;(have hnc:∀{k:Nat} {cur:Array Value} {T:TypeId} {z:Nat×Nat},W.heap[k]?=some (.cells cur T z)→k≠g1:=fun hk e=>by rw[e,hob1]at hk;cases hk);(have e3:∀k,k≠g1→W3.heap[k]?=W.heap[k]?:=fun k hk=>t5 k hk);have hS5:S5 g g1 kb (.bool s.final) (.int .i64 s.out) (.int .i64 ln) W3:=⟨(World.cell?_of_block (a:=⟨g,1,none⟩) (e3 g (hnc HM.out.at'.blk))).trans HM.out.at'.cells.2.1,(TriAt.of HM.out.key).same (e3 kb (hnc HM.out.key))⟩;have hS50:S5 g g1 kb (.bool s.final) (.int .i64 s.out) (.int .i64 ln) (W.drewN nq).drew:=⟨HM.out.at'.cells.2.1,(TriAt.of HM.out.key).same rfl⟩;have HW3:Hid ((∀k,k≠g1→W3.heap[k]?=W.heap[k]?)∧W3.heap.size=W.heap.size∧W3.os=W.os∧W3.tape=W.tape∧W3.output=W.output):=⟨e3,t4,t1,t2,t3⟩;have HK3:Hid (KMapAt 214 valK W3 g1 (m1++[((s.final,s.out,ln),nb)])):=hK3;have hg1g:g≠g1:=hnc HM.out.at'.blk;have hbs1:bs≠g1:=hnc HM.out.box;have HG1:Hid (g≠g1∧bs≠g1):=⟨hg1g,hbs1⟩;(have hvsb:∀k,vs.ownBlock=some k→k<w.heap.size:=fun k hk=>HFP.out k (.inr (.inr (.inr hk))));(have HVSB:Hid (∀k,vs.ownBlock=some k→k<w.heap.size∧k≠g1):=fun k hk=>⟨hvsb k hk,by obtain⟨_,cur,hc⟩:=ho.block hk;exact hnc hc⟩);(have hoW3:GOwn 91 3 E W3 vs xss:=ho.same fun k hk=>e3 k (HVSB.out k hk).2);have HOW3:Hid (GOwn 91 3 E W3 vs xss):=hoW3;have HXS:Hid (GOwn 91 3 E W vs xss∧xss.length=b.length∧∀(i:Nat) (s:St),b[i]?=some s→∃va,xss[i]?=some [.bool s.final,.int .i64 s.out,va]∧AOwn E W va s.arcs∧∀k,va.ownBlock=some k→A k):=⟨ho,hxl,hxe⟩;clear hupd hK3 t1 t2 t3 t4 t5 hob1 hnc e3 k0 k1 k2 g1c g0 hg1g hbs1 hvsb ho hxl hxe hoW3;refine zAf (S:=S5 g g1 kb (.bool s.final) (.int .i64 s.out) (.int .i64 ln)) 7 rfl zAn hS50 (fun hHeld=>?_);refine tq4 S5.facts 0 33 1 34 2 35 3 36 ?_;simp only[sZa,sZb,sZc];refine tq2 S5.facts 4 37 5 38 ?_;simp only[sZa,sZb,sZc];refine zB0 (i:=6) (w':=W3) (by kernel_rfl) rfl rfl (by rfl) ((zQ6 _ _ _ _ _ _ _ _ _ _ _).trans (congrArg (fun r=>Result.andThen r _) HUPD.out)) hS5 (fun _=>?_);refine wpAnyH_done (by kernel_rfl) ?_ _;clear hS5 hS50 hHeld;(go_upto_region 6 with fail);obtain⟨W4,hW4⟩:∃W4,W4=W3.drew.alloc (.cells #[.bool s.final,.int .i64 s.out,.slice ad na cap] 91):=⟨_,rfl⟩;(have hb4:Below W3.heap.size W3 W4:=by rw[hW4];exact((Below.refl _ W3).drew).alloc (by simp) _);(have hn4:W4.heap[W3.heap.size]?=some (.cells #[.bool s.final,.int .i64 s.out,.slice ad na cap] 91):=by rw[hW4];exact zAb _ _);(have hE3:E≤W3.heap.size:=by have h1:=HM.out.at'.lo.1;have h2:=HM.out.at'.lt.1;have h3:=HW3.out.2.1;omega);obtain⟨v5,W5,hap,ho5,hgr,hown5⟩:=zAw rtyS (HOW3.out.below hb4) (Nat.le_trans hE3 hb4.size) (x:=[.bool s.final,.int .i64 s.out,.slice ad na cap]) ⟨rfl,by simp[Value.oneCell']⟩ (nb:=W3.heap.size) (fun j u hj=>by simp only[World.cell?,hn4];simpa using hj) (by have:=HXS.out.2.1;have:=HBL.out;omega) 37 1;(have HAP:Hid ((Builtin.append_ #[37,37] 37 #[.slice sd nb sc,.slice (some ⟨W3.heap.size,0,none⟩) 1 1]).run Tryz.prog W4 = .ok v5 W5):=by show _=_;rw[←hvs];exact hap);(have e5:∀k,k<W3.heap.size→vs.ownBlock≠some k→W5.heap[k]?=W3.heap[k]?:=fun k hk hne=>(hgr.block k (Nat.lt_of_lt_of_le hk hb4.size) (fun e=>hne e.symm)).trans (hb4.block k hk));have hgl:g<W.heap.size:=HM.out.at'.lt.1;have hgne:vs.ownBlock≠some g:=fun e=>by
     obtain⟨_,cur,hc⟩:=HXS.out.1.block e;have:=HM.out.at'.blk;rw[hc]at this;simp only[Option.some.injEq,Obj.cells.injEq]at this;exact absurd this.2.1 (by decide)
    have hbl:bs<W.heap.size:=(Array.getElem?_eq_some_iff.1 HM.out.box).1;(have hbne:vs.ownBlock≠some bs:=fun e=>by have h1:=(HVSB.out bs e).1;have h2:=HM.out.bs0;omega);have eg3:W3.heap[g]?=some (.cells #[vs,.map (some g1),.map (some g2)] 113 (0,0)):=(HW3.out.1 g HG1.out.1).trans HM.out.at'.blk;have eg5:W5.heap[g]?=some (.cells #[vs,.map (some g1),.map (some g2)] 113 (0,0)):=(e5 g (by rw[HW3.out.2.1];exact hgl) hgne).trans eg3;have eb3:W3.heap[bs]?=some (.cells #[.bool s.final,.int .i64 s.out,.slice ad na cap] 91):=(HW3.out.1 bs HG1.out.2).trans HM.out.box;have eb5:W5.heap[bs]?=some (.cells #[.bool s.final,.int .i64 s.out,.slice ad na cap] 91):=(e5 bs (by rw[HW3.out.2.1];exact hbl) hbne).trans eb3;(have hc63:W3.cell? ⟨g,0,none⟩=some (.slice sd nb sc):=by simp[World.cell?,eg3,hvs]);have hS63:S6 g bs (.slice sd nb sc) (.bool s.final) (.int .i64 s.out) (.slice ad na cap) W3.drew:=⟨hc63,(TriAt.of eb3).same rfl⟩;have hS64:S6 g bs (.slice sd nb sc) (.bool s.final) (.int .i64 s.out) (.slice ad na cap) W4:=⟨by rw[hb4.cell (p:=⟨g,0,none⟩) (by rw[HW3.out.2.1];exact hgl)];simp[World.cell?,eg3,hvs],(TriAt.of eb3).same (hb4.block bs (by rw[HW3.out.2.1];exact hbl))⟩;have hS65:S6 g bs (.slice sd nb sc) (.bool s.final) (.int .i64 s.out) (.slice ad na cap) W5:=⟨by simp[World.cell?,eg5,hvs],TriAt.of eb5⟩;have HFIN:Hid (NumSays A E g g1 g2 vs b m2 s (.slice ad na cap) w (W5.setCell ⟨g,0,none⟩ v5) nb):=by
     show NumSays _ _ _ _ _ _ _ _ _ _ _ _ _;(have eg6:(W5.setCell ⟨g,0,none⟩ v5).heap[g]?=some (.cells #[v5,.map (some g1),.map (some g2)] 113 (0,0)):=by rw[zAu eg5 v5];rfl);have hv5g:v5.ownBlock≠some g:=by
      intro e;obtain⟨_,cur,hc⟩:=ho5.block e;rw[eg5]at hc;simp only[Option.some.injEq,Obj.cells.injEq]at hc;exact absurd hc.2.1 (by decide)
     have hsz3:=HW3.out.2.1;have ekeep:∀k,k<W.heap.size→k≠g→k≠g1→vs.ownBlock≠some k→(W5.setCell ⟨g,0,none⟩ v5).heap[k]?=W.heap[k]?:=fun k hk h1 h2 h3=>by
      rw[zAc _ _ _ _ h1,e5 k (by omega) h3,HW3.out.1 k h2]
     have hm6:KMapAt 214 valK (W5.setCell ⟨g,0,none⟩ v5) g1 (m1++[((s.final,s.out,ln),b.length)]):=by
      rw[HNB.out];refine HK3.out.same ?_;rw[zAc _ _ _ _ (Ne.symm HG1.out.1)];(refine e5 g1 HK3.out.lt fun e=>?_);exact(HVSB.out g1 e).2 rfl
     have harc:AOwn E (W5.setCell ⟨g,0,none⟩ v5) (.slice ad na cap) s.arcs:=AOwn.typed HM.out.arcs fun k cur hk=>by
      refine ekeep k (Array.getElem?_eq_some_iff.1 hk).1 (fun e=>?_) (fun e=>?_) (fun e=>?_)
      · subst e
        rw[HM.out.at'.blk]at hk;simp only[Option.some.injEq,Obj.cells.injEq]at hk;exact absurd hk.2.1 (by decide)
      · subst e
        obtain⟨es,ck,hob⟩:=HM.out.at'.mp1.obj;rw[hob]at hk;cases hk
      · obtain⟨_,cur',hc⟩:=HXS.out.1.block e
        rw[hk]at hc;simp only[Option.some.injEq,Obj.cells.injEq]at hc;exact absurd hc.2.1 (by decide)
     have hadd:=HM.out.at'.ni.add HM.out.at'.li.nd HNEW.out HM.out.lnD;have hB6:=HM.out.at'.push HXS.out.1 HXS.out.2.1 HXS.out.2.2 (va := .slice ad na cap) ekeep eg6 hm6 (ho5.same fun k hk=>zAc _ _ _ _ (fun e=>hv5g (e▸hk))) harc HM.out.lnD HNEW.out;refine⟨⟨v5,_,m2',D',by rw[hadd.1];exact hB6,HM.out.len,?_,?_⟩,by rw[hadd.1];exact HNB.out⟩
     · have hU:=HM.out.upd
       have hr5:=zA3 W5 g 0 v5;have hr3:=HW3.out.2.2;refine⟨hr5.1.trans (hgr.os.trans (hb4.os.trans (hr3.1.trans hU.os))),hr5.2.1.trans (hgr.tape.trans (hb4.tape.trans (hr3.2.1.trans hU.tape))),hr5.2.2.1.trans (hgr.output.trans (hb4.output.trans (hr3.2.2.trans hU.output))),?_,fun k hk hF=>?_⟩
       · have h1:=hr5.2.2.2
         have h2:=hgr.size;have h3:=hb4.size;have h4:=hU.size;omega
       · rw[ekeep k (Nat.lt_of_lt_of_le hk hU.size) (fun e=>hF (.inl e)) (fun e=>hF (.inr (.inl e))) (fun e=>hF (.inr (.inr (.inr e))))]
         exact hU.block k hk (fun e=>hF (.inr (.inr (.inl e))))
     · rcases hown5 with h|⟨j,h1,h2⟩
       · exact .inl h
       · exact .inr ⟨j,h1,by have h3:=hb4.size;have h4:=HM.out.upd.size;omega⟩
    have hg5:W5.cell? ⟨g,0,none⟩=some (.slice sd nb sc):=hS65.c;(have hz5:W5.frozen? ⟨g,0,none⟩=false:=by simp[World.frozen?,eg5]);obtain⟨vd,vc,hv5s,_⟩:=ho5.shape;rw[List.length_append,HXS.out.2.1,HNB.out]at hv5s;subst hv5s;clear hc63 hap ho5 hgr hown5 e5 hgl hgne hbl hbne eg3 eg5 eb3 eb5 hn4 hE3;refine zBd (S:=S6 g bs (.slice sd nb sc) (.bool s.final) (.int .i64 s.out) (.slice ad na cap)) 11 10 rfl zAn ?_;refine te4 S6.facts 0 39 1 40 2 41 3 42 ?_;simp only[sZa,sZb,sZc];refine te2 S6.facts 4 43 5 44 ?_;simp only[sZa,sZb,sZc];refine zAe (i:=6) (v := .slice (some ⟨W3.heap.size,0,none⟩) 1 1) (w':=W4) 45 (by kernel_rfl) rfl rfl (by rfl) (by rw[hW4];go_simp;first|done|exact rfl) hS64 ?_;simp only[sZa,sZb,sZc];refine zAe (i:=7) (v := .slice vd (nb+[[Value.bool s.final,.int .i64 s.out,.slice ad na cap]].length) vc) (w':=W5) 46 (by kernel_rfl) rfl rfl (by rfl) (zCi HAP.out) hS65 ?_;simp only[sZa,sZb,sZc];refine zAe (i:=8) (v := .pointer (some ⟨g,0,none⟩)) (w':=W5) 47 (by kernel_rfl) rfl rfl (by rfl) (by kernel_rfl) hS65 ?_;simp only[sZa,sZb,sZc];refine zAe (i:=9) (v := .pointer (some ⟨g,0,none⟩)) (w':=W5) 48 (by kernel_rfl) rfl rfl (by rfl) (by kernel_rfl) hS65 ?_;simp only[sZa,sZb,sZc];clear hS63 hS64 hS65 hb4 hW4;refine zA6 (w':=W5.setCell ⟨g,0,none⟩ (.slice vd (nb+[[Value.bool s.final,.int .i64 s.out,.slice ad na cap]].length) vc)) (by kernel_rfl) rfl rfl (by rfl) (by go_simp;first|done|exact rfl) (by kernel_rfl) ?_;go_wp2;go_ret;exact⟨nb,rfl,HFIN.out⟩
structure StSays(A:Nat→Prop)(E g g1 g2:Nat)(vs:Value)(b:List St)(m2:List (LK×Nat))(f:Nat)(S:List En)(w w':World)(n:Nat):Prop where
 ex:∃A' vs' m1' m2' D',BAt A' E w' g g1 g2 vs' (stF f b S).1 m1' m2' D'∧m2'.length≤m2.length+bulk S∧Upd (fpB g g1 g2 vs) w w'∧(vs'.ownBlock=vs.ownBlock∨∃j,vs'.ownBlock=some j∧w.heap.size≤j)∧(∀k,A' k→A k∨w.heap.size≤k)∧∀k,A' k→k<w'.heap.size
 num:(stF f b S).2=n
structure EnOk(l:List En):Prop where
 wt:∀e∈l,1≤e.2∧e.2≤1048576
 rn:∀e∈l,∀c∈e.1,zIk c
 ln:∀e∈l,e.1.length≤24
theorem EnOk.sub{l l':List En}(h:EnOk l)(hs:∀e∈l',e∈l):EnOk l':=⟨fun e he=>h.wt e (hs e he),fun e he=>h.rn e (hs e he),fun e he=>h.ln e (hs e he)⟩
structure SLoop(A:Nat→Prop)(E g g1 g2:Nat)(vs:Value)(b:List St)(m2:List (LK×Nat))(f k:Nat)(base:Int)(fin:Bool)(out:Int)(T0:List En)(bs:Nat)(w1 wr:World)(s1:Value)(T:List En)(acc:List Arc)(A':Nat→Prop)(vs':Value)(b':List St)(m1':List (SK×Nat))(m2':List (LK×Nat))(D':List (List Arc))(va:Value):Prop where
 row:ERow E wr s1 T
 at':BAt A' E wr g g1 g2 vs' b' m1' m2' D'
 box:wr.heap[bs]?=some (.cells #[.bool fin,.int .i64 out,va] 91)
 arcs:AOwn E wr va acc
 apart:∀j,va.ownBlock=some j→w1.heap.size≤j∧¬A' j
 eq1:(arF (stF f) base b' (grp (cut k T))).1=(arF (stF f) base b (grp (cut k T0))).1
 eq2:acc++(arF (stF f) base b' (grp (cut k T))).2=(arF (stF f) base b (grp (cut k T0))).2
 n1:m2'.length+acc.length+bulk (cut k T)≤m2.length+bulk (cut k T0)
 n2:b'.length+acc.length+bulk (cut k T)≤b.length+bulk (cut k T0)
 n3:T=T0∨0<acc.length
 n4:acc.length+T.length≤T0.length
 ne:∀e∈cut k T,e.1≠[]
 ok:∀p∈grp (cut k T),Ok f p.2
 oka:∀a∈acc,zXr a
 sub:∀e∈T,e∈T0
 upd:Upd (fun j=>fpB g g1 g2 vs j∨j=bs) w1 wr
 own:vs'.ownBlock=vs.ownBlock∨∃j,vs'.ownBlock=some j∧w1.heap.size≤j
 as1:∀j,A' j→A j∨w1.heap.size≤j
 as2:∀j,A' j→j<wr.heap.size
def S4E(ge oe:Nat)(n:Int)(w:World):Prop:=w.cell? ⟨ge,oe+1,none⟩=some (.int .i64 n)
theorem S4E.facts{ge oe:Nat}{n:Int}{w:World}(h:S4E ge oe n w):w.cell? ⟨ge,oe+1,none⟩=some (.int .i64 n):=h
structure S8(bs:Nat)(va:Value)(ge oe gr o n c:Nat)(k:Nat)(ch:Int)(w:World):Prop where
 b:w.cell? ⟨bs,2,none⟩=some va
 e:w.cell? ⟨ge,oe,none⟩=some (.slice (some ⟨gr,o,none⟩) n c)
 r:w.cell? ⟨gr,o+k,none⟩=some (.int .i32 ch)
theorem S8.facts{bs:Nat}{va:Value}{ge oe gr o n c:Nat}{k:Nat}{ch:Int}{w:World}(h:S8 bs va ge oe gr o n c k ch w):w.cell? ⟨bs,2,none⟩=some va∧w.cell? ⟨ge,oe,none⟩=some (.slice (some ⟨gr,o,none⟩) n c)∧w.cell? ⟨gr,o+k,none⟩=some (.int .i32 ch):=⟨h.b,h.e,h.r⟩
theorem RunesAt.low{E:Nat}{w:World}{g o n cap:Nat}{xs:List Int}(h:RunesAt E w (.slice (some ⟨g,o,none⟩) n cap) xs)(h0:0<xs.length):g<E:=by
 obtain⟨ad',cap',e,hc⟩:=h;simp only[Value.slice.injEq]at e;obtain⟨rfl,_,rfl⟩:=e;obtain⟨g',off,e,hg,_⟩:=hc h0;simp only[Option.some.injEq,Addr.mk.injEq]at e;omega
theorem ERow.take{E:Nat}{w:World}{ge oe n cap m:Nat}{l:List En}(h:ERow E w (.slice (some ⟨ge,oe,none⟩) n cap) l)(hm:m≤n)(hm0:0<m):ERow E w (.slice (some ⟨ge,oe,none⟩) m cap) (l.take m):=by
 have hn:n=l.length:=by obtain⟨_,_,e,_⟩:=h;simp only[Value.slice.injEq]at e;exact e.2.1
 obtain⟨g',o',e',hg,hc,hx⟩:=h.at (by omega);simp only[Option.some.injEq,Addr.mk.injEq]at e';obtain⟨rfl,rfl,_⟩:=e';refine⟨_,cap,by rw[List.length_take,Nat.min_eq_left (by omega)],by rw[List.length_take];omega,fun _=>⟨ge,oe,rfl,hg,fun i e hi=>hx i e ?_⟩⟩;rw[List.getElem?_take]at hi
 split at hi
 · exact hi
 · cases hi
theorem ERow.drop{E:Nat}{w:World}{ge oe n cap m:Nat}{l:List En}{ad:Option Addr}(h:ERow E w (.slice (some ⟨ge,oe,none⟩) n cap) l)(hm:m≤n)(hm0:0<n)(had:m=n∨ad=some ⟨ge,oe+m*2,none⟩):ERow E w (.slice ad (n-m) (cap-m)) (l.drop m):=by
 have hn:n=l.length:=by obtain⟨_,_,e,_⟩:=h;simp only[Value.slice.injEq]at e;exact e.2.1
 obtain⟨g',o',e',hg,hc,hx⟩:=h.at hm0;simp only[Option.some.injEq,Addr.mk.injEq]at e';obtain⟨rfl,rfl,_⟩:=e';refine⟨ad,cap-m,by rw[List.length_drop,hn],by rw[List.length_drop];omega,fun h0=>?_⟩;rw[List.length_drop]at h0;refine⟨ge,oe+m*2,had.resolve_left (by omega),hg,fun i e hi=>?_⟩;rw[List.getElem?_drop]at hi;have:=hx (m+i) e hi
 rwa [Nat.add_mul,←Nat.add_assoc]at this
end
