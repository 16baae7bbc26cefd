import Derived.Test.YthecngkdmnadoaaGreatG52
import Derived.Test.YthecngkdmnadoaaGreatG23
import Derived.Deep.Strs
namespace Go.Proofs.YthecngkdmnadoaaGreat
open Go.ChangeShapes Go.WideShapes Go.ChangeAt Go.RowKit Go.Deep
set_option maxRecDepth 100000
theorem intCells14:Tryz.prog.cellsOf 3=1:=by kernel_rfl
theorem ints_in4{H:Type}{enc:TypeId×Value→H}{W:World}{base:Nat}{v:Value}{d:DataW H}{p:List MemPlace}
 (hok:Value.okWide Tryz.prog W .any base 47 v) (h:DataW.Trod enc Tryz.prog W 0 (fun _=>true) true 47 v d p):∃xs:List Int,IntsAt W v xs∧xs.length≤big d:=by
 obtain⟨a0,len,cap,rfl⟩:=okWide_slice Tryz.underlying47 hok;obtain⟨fuel,hf⟩:=h;rcases open_ints Tryz.underlying47 Tryz.underlying3 intCells14 hf with⟨hcs,hx⟩|⟨a,len',cap',zs,hcs,_,hl,hm,hz,hx,hcell,hwz⟩
 · simp[Value.cells]at hcs
   obtain⟨rfl,rfl,rfl⟩:=hcs;exact⟨[],⟨none,0,rfl,Nat.le_refl _,by simp,fun h=>by simp at h,fun x hx=>by cases hx⟩,by simp⟩
 · simp[Value.cells]at hcs
   obtain⟨rfl,rfl,rfl⟩:=hcs;simp only[Prod.mk.injEq]at hx;obtain⟨rfl,_⟩:=hx;simp only[if_true]at hz;(have hlen:(zs.take len).length=len:=by rw[List.length_take];omega);refine⟨zs.take len,⟨some a,cap,by rw[hlen],by omega,by unfold maxLen at hm;omega,fun h0=>?_,fun x hx=>?_⟩,?_⟩
   · rw[hlen]at h0
     obtain⟨b,off,rfl,hc⟩:=ints_at hcell (by omega);refine⟨b,off,rfl,lt_of_cell (hc 0 (by omega)),fun j x hj=>?_⟩;rw[List.getElem?_take]at hj
     split at hj
     · have hjl:=(List.getElem?_eq_some_iff.1 hj).1
       rw[hc j (by omega)];simp[List.getD_eq_getElem?_getD,hj]
     · cases hj
   · have:=bounds_i64 (hwz x (List.mem_of_mem_take hx))
     omega
   · rw[hlen]
     simp only[big,lits,List.length_map,List.length_take];omega
end Go.Proofs.YthecngkdmnadoaaGreat
