import Derived.Test.YtobjpljdgieklaaGreatDoorJ44
import Derived.Test.YtobjpljdgieklaaGreatDoorJ43
namespace Go.Proofs.YtobjpljdgieklaaGreatDoor
open Go.ChangeShapes Go.WideShapes Go.ChangeAt Go.RowKit Go.Deep Fz
set_option maxRecDepth 100000
def SmM(m:Mt):Prop:=m.1.size≤9223372036854775807
theorem query_in{H:Type}{enc:TypeId×Value→H}{W:World}{base:Nat}{v:Value}{d:DataW H}{p:List MemPlace}
 (hok:Value.okWide Tryz.prog W .any base 49 v) (h:DataW.Trod enc Tryz.prog W 0 (fun _=>true) true 49 v d p):∃q:Mt,v = .agg #[.string q.1,.int .i64 q.2.1,.int .i64 q.2.2]∧SmM q:=by
 obtain⟨cs,rfl,hsz⟩:=okWide_struct Tryz.underlying49 hok;obtain⟨fuel,hf⟩:=h;obtain⟨y0,y1,y2,n,_,hl,g0,g1,g2⟩:=trod_struct3 Tryz.underlying49 hf;rw[show Tryz.prog.cellsOf 49=3 by kernel_rfl]at hl;have ec:(Value.agg cs).cells.toList=cs.toList:=by simp[Value.cells]
 rw[ec]at hl g0 g1 g2
 match hcs:cs.toList,hl with
 |[v0,v1,v2],_=>
  rw[hcs]at g0 g1 g2;simp[zG8,zHd]at g0 g1 g2;obtain⟨s,e0,_,w0⟩:=DataW.trod_string Tryz.underlying9 g0;obtain⟨z,e1,_,w1⟩:=DataW.trod_int Tryz.underlying3 g1;obtain⟨z2,e2,_,w2⟩:=DataW.trod_int Tryz.underlying3 g2;simp only[List.cons.injEq,and_true]at e0 e1 e2;subst e0 e1 e2;have e3:cs=#[.string s,.int .i64 z,.int .i64 z2]:=Array.toList_inj.1 hcs;subst e3;have hw:=w0;unfold maxLen at hw;exact⟨(s,z,z2),rfl,hw⟩
