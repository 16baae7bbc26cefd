import Derived.Test.YtkdhdehobdfakaaGreatDoorFRMake
import Derived.Test.YtkdhdehobdfakaaGreatDoorJ22
namespace Go.Proofs.YtkdhdehobdfakaaGreatDoor
open Go.RowKit Nums Fm Pm
set_option maxRecDepth 100000
namespace Fm
theorem zKz{st:List (List En)→List St→List En→List (List En)×List St×Nat}(h:∀D b S,D<+:(st D b S).1):∀(gs:List (Int×List En)) (D:List (List En)) (b:List St),D<+:(refA st D b gs).1
 |[],D,_=>List.prefix_refl D
 |(_,G)::r,D,b=>(h D b G).trans (zKz h r _ _)
theorem zKy:∀(f:Nat) (D:List (List En)) (b:List St) (S:List En),D<+:(refF f D b S).1
 |0,D,_,_=>List.prefix_refl D
 |f+1,D,b,S=>by
  rw[refF]
  split
  · exact List.prefix_refl D
  · exact(zKz (zKy f) _ D b).trans (List.prefix_append _ _)
theorem zE7(st:List (List En)→List St→List En→List (List En)×List St×Nat):∀(gs hs:List (Int×List En)) (D:List (List En)) (b:List St),refA st D b (gs++hs)=((refA st (refA st D b gs).1 (refA st D b gs).2.1 hs).1,(refA st (refA st D b gs).1 (refA st D b gs).2.1 hs).2.1,(refA st D b gs).2.2++(refA st (refA st D b gs).1 (refA st D b gs).2.1 hs).2.2)
 |[],hs,D,b=>by simp[refA]
 |(c,G)::r,hs,D,b=>by
  simp only[List.cons_append,refA];rw[zE7 st r hs]
theorem zHd(st:List (List En)→List St→List En→List (List En)×List St×Nat)(gs:List (Int×List En))(c:Int)(G:List En)(D:List (List En))(b:List St):refA st D b (gs++[(c,G)])=((st (refA st D b gs).1 (refA st D b gs).2.1 G).1,(st (refA st D b gs).1 (refA st D b gs).2.1 G).2.1,(refA st D b gs).2.2++[⟨c,least G,(st (refA st D b gs).1 (refA st D b gs).2.1 G).2.2⟩]):=by
 rw[zE7];rfl
end Fm
def fpK(vR vS:Value)(j:Nat):Prop:=vR.ownBlock=some j∨vS.ownBlock=some j
def Newer(w:World)(v v':Value):Prop:=v'.ownBlock=v.ownBlock∨∃q,v'.ownBlock=some q∧w.heap.size≤q
structure StA(A:Nat→Prop)(B:Nat)(w:World)(vs:Value)(b:List St):Prop where
 ex:∃xss,GOwn 56 3 B w vs xss∧xss.length=b.length∧∀(i:Nat) (s:St),b[i]?=some s→∃va,xss[i]?=some [.bool s.final,.int .i64 s.out,va]∧AOwn B w va s.arcs∧∀k,va.ownBlock=some k→A k
 lt:∀k,A k→k<w.heap.size
theorem StA.row{A:Nat→Prop}{B:Nat}{w:World}{vs:Value}{b:List St}(h:StA A B w vs b):StRow B w vs b:=by
 obtain⟨xss,h1,h2,h3⟩:=h.ex;exact⟨xss,h1,h2,fun i s hi=>by obtain⟨va,e1,e2,_⟩:=h3 i s hi;exact⟨va,e1,e2⟩⟩
theorem StA.shape{A:Nat→Prop}{B:Nat}{w:World}{vs:Value}{b:List St}(h:StA A B w vs b):∃ad cap,vs = .slice ad b.length cap:=h.row.shape
theorem StA.kept{A:Nat→Prop}{B:Nat}{w w':World}{vs:Value}{b:List St}(h:StA A B w vs b)(hs:w.heap.size≤w'.heap.size)(hv:∀j,vs.ownBlock=some j→w'.heap[j]?=w.heap[j]?)(hA:∀(j:Nat) (cur:Array Value),A j→w.heap[j]?=some (Obj.cells cur 89 (0,0))→w'.heap[j]?=w.heap[j]?):StA A B w' vs b:=by
 obtain⟨xss,h1,h2,h3⟩:=h.ex;refine⟨⟨xss,h1.same hv,h2,fun i s hi=>?_⟩,fun k hk=>Nat.lt_of_lt_of_le (h.lt k hk) hs⟩;obtain⟨va,e1,e2,e3⟩:=h3 i s hi;exact⟨va,e1,GOwn.same e2 fun g hg=>(by obtain⟨_,cur,hc⟩:=GOwn.block e2 hg;exact hA g cur (e3 g hg) hc),e3⟩
theorem StA.below{A:Nat→Prop}{B:Nat}{w w':World}{vs:Value}{b:List St}(h:StA A B w vs b)(hb:Below w.heap.size w w'):StA A B w' vs b:=by
 obtain⟨xss,h1,_,_⟩:=h.ex;exact h.kept hb.size (fun j hj=>hb.block j (h1.lt hj)) (fun j _ hj _=>hb.block j (h.lt j hj))
structure KSays(A A':Nat→Prop)(E B:Nat)(w w':World)(vR vS vR' vS':Value)(D:List (List En))(b:List St):Prop where
 rests:AllOwn E B w' vR' D
 states:StA A' B w' vS' b
 sub:∀j,A' j→A j∨w.heap.size≤j
 upd:Upd (fpK vR vS) w w'
 ownR:Newer w vR vR'
 ownS:Newer w vS vS'
theorem Newer.refl(w:World)(v:Value):Newer w v v := .inl rfl
theorem Newer.trans{w w1:World}{v v1 v2:Value}(h1:Newer w v v1)(h2:Newer w1 v1 v2)(hs:w.heap.size≤w1.heap.size):Newer w v v2:=by
 rcases h2 with h2|⟨q,h2,hq⟩
 · rcases h1 with h1|⟨q,h1,hq⟩
   · exact .inl (h2.trans h1)
   · exact .inr ⟨q,h2.trans h1,hq⟩
 · exact .inr ⟨q,h2,Nat.le_trans hs hq⟩
theorem Newer.low{w:World}{v v':Value}(h:Newer w v v'){j:Nat}(hj:j<w.heap.size)(e:v'.ownBlock=some j):v.ownBlock=some j:=by
 rcases h with h|⟨q,h,hq⟩
 · rw[←h];exact e
 · rw[h]at e;cases e;omega
theorem GOwn.over{T:TypeId}{k B:Nat}{w w':World}{v vR vS:Value}{xss yss zss:List (List Value)}{BR BS:Nat}(h:GOwn T k B w v xss)(hR:GOwn 60 1 BR w vR yss)(hS:GOwn 56 3 BS w vS zss)(h1:T≠60)(h2:T≠56)(hu:Upd (fpK vR vS) w w'):GOwn T k B w' v xss:=by
 refine h.same fun g hg=>hu.block g (h.lt hg) fun hf=>?_
 obtain⟨_,c1,e1⟩:=h.block hg;rcases hf with hf|hf
 · obtain⟨_,c2,e2⟩:=hR.block hf
   rw[e1]at e2;simp only[Option.some.injEq,Obj.cells.injEq]at e2;exact h1 e2.2.1
 · obtain⟨_,c2,e2⟩:=hS.block hf
   rw[e1]at e2;simp only[Option.some.injEq,Obj.cells.injEq]at e2;exact h2 e2.2.1
theorem AllOwn.typed{E B:Nat}{w w':World}{v:Value}{Ds:List (List En)}(h:AllOwn E B w v Ds)(h1:∀(j:Nat) (cur:Array Value),w.heap[j]?=some (Obj.cells cur 60 (0,0))→w'.heap[j]?=w.heap[j]?)(h2:∀(j:Nat) (cur:Array Value),w.heap[j]?=some (Obj.cells cur 108 (0,0))→w'.heap[j]?=w.heap[j]?)(hE:Below E w w'):AllOwn E B w' v Ds:=by
 obtain⟨xss,a1,a2,a3⟩:=h.ex;refine⟨xss,a1.same fun g hg=>(by obtain⟨_,cur,hc⟩:=a1.block hg;exact h1 g cur hc),a2,fun i R hi=>?_⟩;obtain⟨u,e1,e2⟩:=a3 i R hi;obtain⟨yss,b1,b2,b3⟩:=e2.ex;refine⟨u,e1,⟨yss,b1.same fun g hg=>(by obtain⟨_,cur,hc⟩:=b1.block hg;exact h2 g cur hc),b2,fun j e hj=>?_⟩⟩;obtain⟨q,d1,d2,d3⟩:=b3 j e hj;exact⟨q,d1,d2.below hE,d3⟩
theorem RMade.typed{E B:Nat}{w w':World}{v:Value}{S:List En}(h:RMade E B w v S)(h2:∀(j:Nat) (cur:Array Value),w.heap[j]?=some (Obj.cells cur 108 (0,0))→w'.heap[j]?=w.heap[j]?)(hE:Below E w w'):RMade E B w' v S:=by
 obtain⟨yss,b1,b2,b3⟩:=h.ex;refine⟨yss,b1.same fun g hg=>(by obtain⟨_,cur,hc⟩:=b1.block hg;exact h2 g cur hc),b2,fun j e hj=>?_⟩;obtain⟨q,d1,d2,d3⟩:=b3 j e hj;exact⟨q,d1,d2.below hE,d3⟩
theorem Fm.refA_len(st:List (List En)→List St→List En→List (List En)×List St×Nat):∀(gs:List (Int×List En)) (D:List (List En)) (b:List St),(refA st D b gs).2.2.length=gs.length
 |[],_,_=>rfl
 |(_,G)::r,D,b=>by simp only[refA,List.length_cons,refA_len st r]
theorem GOwn.over3{T:TypeId}{k B kb:Nat}{w w':World}{v vR vS x y:Value}{xss yss zss:List (List Value)}{BR BS:Nat}(h:GOwn T k B w v xss)(hR:GOwn 60 1 BR w vR yss)(hS:GOwn 56 3 BS w vS zss)(hK:w.heap[kb]?=some (.cells #[x,y] 64))(h1:T≠60)(h2:T≠56)(h3:T≠64)(hu:Upd (fun j=>fpK vR vS j∨j=kb) w w'):GOwn T k B w' v xss:=by
 refine h.same fun g hg=>hu.block g (h.lt hg) fun hf=>?_
 obtain⟨_,c1,e1⟩:=h.block hg;rcases hf with(hf|hf)|hf
 · obtain⟨_,c2,e2⟩:=hR.block hf
   rw[e1]at e2;simp only[Option.some.injEq,Obj.cells.injEq]at e2;exact h1 e2.2.1
 · obtain⟨_,c2,e2⟩:=hS.block hf
   rw[e1]at e2;simp only[Option.some.injEq,Obj.cells.injEq]at e2;exact h2 e2.2.1
 · rw[hf,hK]at e1
   simp only[Option.some.injEq,Obj.cells.injEq]at e1;exact h3 e1.2.1.symm
