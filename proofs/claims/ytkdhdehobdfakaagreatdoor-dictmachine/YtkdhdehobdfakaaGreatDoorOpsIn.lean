import Derived.Test.YtkdhdehobdfakaaGreatDoorJ39
import Derived.Test.YtkdhdehobdfakaaGreatDoorJ50
namespace Go.Proofs.YtkdhdehobdfakaaGreatDoor
open Go.ChangeShapes Go.WideShapes Go.ChangeAt Go.RowKit Go.Deep Fz Di
set_option maxRecDepth 100000
namespace Di
def OSm1(o:Oo):Prop:=o.2.1.size≤9223372036854775807
theorem oCells:Tryz.prog.cellsOf 40=3:=by kernel_rfl
theorem op_cells{H:Type}{enc:TypeId×Value→H}{W:World}{fuel:Nat}{cs:List Value}{x:DataW H×List MemPlace}
 (h:DataW.trod enc Tryz.prog W 0 (fun _=>true) true fuel 40 cs=some x):∃p:Oo,cs=zEj p∧OSm1 p:=by
 obtain⟨y0,y1,y2,n,_,hl,g0,g1,g2⟩:=trod_struct3 Tryz.underlying40 h;rw[oCells]at hl
 match cs,hl with
 |[v0,v1,v2],_=>
  simp[zQj,zRk]at g0 g1 g2;obtain⟨z,e0,_,w0⟩:=DataW.trod_int Tryz.underlying3 g0;obtain⟨s,e1,_,w1⟩:=DataW.trod_string Tryz.underlying9 g1;obtain⟨z2,e2,_,w2⟩:=DataW.trod_int Tryz.underlying3 g2;simp only[List.cons.injEq,and_true]at e0 e1 e2;subst e0 e1 e2;refine⟨(z,s,z2),rfl,?_⟩;have hw:=w1;unfold maxLen at hw;exact hw
theorem ops_in{H:Type}{enc:TypeId×Value→H}{W:World}{base:Nat}{v:Value}{d:DataW H}{p:List MemPlace}
 (hok:Value.okWide Tryz.prog W .any base 23 v) (h:DataW.Trod enc Tryz.prog W 0 (fun _=>true) true 23 v d p):∃L:List Oo,ORow W.heap.size W v L∧OSm L∧L.length≤big d:=by
 obtain⟨a0,len,cap,rfl⟩:=okWide_slice Tryz.underlying23 hok;obtain⟨fuel,hf⟩:=h;rcases open_slice Tryz.underlying23 hf with⟨hcs,hx⟩|⟨a,len',cap',m,n,D,Pl,hcs,_,hl,hm,hmm,hx,hel⟩
 · simp[Value.cells]at hcs
   obtain⟨rfl,rfl,rfl⟩:=hcs;exact⟨[],⟨none,0,rfl,fun h=>by simp at h⟩,(fun x hx=>absurd hx List.not_mem_nil),by simp⟩
 · simp[Value.cells]at hcs
   obtain⟨rfl,rfl,rfl⟩:=hcs;(have hlm:len≤m:=by rw[hmm];split<;>omega);have each:∀i,i<m→∃o:Oo,OSm1 o∧W.cell? (a.add (i*3))=some (.int .i64 o.1)∧W.cell? (a.add (i*3+1))=some (.string o.2.1)∧W.cell? (a.add (i*3+2))=some (.int .i64 o.2.2):=by
    intro i hi;obtain⟨cs',h1,h2⟩:=hel i hi;rw[oCells]at h1;obtain⟨_,hlen,hcell⟩:=World.cells?_some h1;obtain⟨q,rfl,hq⟩:=op_cells h2;have c0:=hcell 0 (by simp);have c1:=hcell 1 (by simp);have c2:=hcell 2 (by simp);rw[add_add]at c0 c1 c2;exact⟨q,hq,by simpa[zEj]using c0,by simpa[zEj]using c1,by simpa[zEj]using c2⟩
   have hch:∃f:Nat→Oo,∀i,i<m→OSm1 (f i)∧W.cell? (a.add (i*3))=some (.int .i64 (f i).1)∧W.cell? (a.add (i*3+1))=some (.string (f i).2.1)∧W.cell? (a.add (i*3+2))=some (.int .i64 (f i).2.2):=
    ⟨fun i=>if hi:i<m then Classical.choose (each i hi)else (0,ByteArray.empty,0),fun i hi=>by
     simp only[dif_pos hi];exact Classical.choose_spec (each i hi)⟩
   obtain⟨f,hfe⟩:=hch;have hget:∀i o,((List.range len).map f)[i]?=some o→i<len∧o=f i:=fun i o hi=>by
    rw[List.getElem?_map]at hi;have hil:i<len:=by
     cases hr:(List.range len)[i]? with
     |none=>rw[hr]at hi;cases hi
     |some j=>have:=(List.getElem?_eq_some_iff.1 hr).1;simpa using this
    rw[List.getElem?_range hil]at hi;simp only[Option.map_some,Option.some.injEq]at hi;exact⟨hil,hi.symm⟩
   simp only[Prod.mk.injEq]at hx;obtain⟨rfl,_⟩:=hx;refine⟨(List.range len).map f,⟨some a,cap,by simp,fun h0=>?_⟩,?_,?_⟩
   · have h0':0<len:=by simpa using h0
     obtain⟨b,off,rfl⟩:∃b off,a=⟨b,off,none⟩:=by
      obtain⟨_,c0,_⟩:=hfe 0 (by omega);obtain⟨b,off,sp⟩:=a;cases sp with
      |none=>exact⟨b,off,rfl⟩
      |some s=>exfalso;revert c0;unfold Addr.add World.cell?;split<;>simp
     (have hadd:∀j,(⟨b,off,none⟩:Addr).add j=⟨b,off+j,none⟩:=fun j=>by unfold Addr.add;split<;>simp_all);refine⟨b,off,rfl,?_,fun i j x u hi hj=>?_⟩
     · obtain⟨_,c0,_⟩:=hfe 0 (by omega)
       rw[hadd]at c0;exact zAn c0
     · rw[List.getElem?_map]at hi
       cases ho:((List.range len).map f)[i]? with
       |none=>rw[ho]at hi;cases hi
       |some o=>
        rw[ho]at hi;simp only[Option.map_some,Option.some.injEq]at hi;subst hi;obtain⟨hil,rfl⟩:=hget i o ho;obtain⟨_,c0,c1,c2⟩:=hfe i (by omega);rw[hadd]at c0 c1 c2
        match j,hj with
        |0,hj=>simp[zEj]at hj;subst hj;exact c0
        |1,hj=>simp[zEj]at hj;subst hj;simpa[Nat.add_assoc]using c1
        |2,hj=>simp[zEj]at hj;subst hj;simpa[Nat.add_assoc]using c2
        |n+3,hj=>simp[zEj]at hj
   · intro x hx
     obtain⟨i,hi⟩:=List.mem_iff_getElem?.1 hx;obtain⟨hil,rfl⟩:=hget i x hi;exact(hfe i (by omega)).1
   · simp[big]
