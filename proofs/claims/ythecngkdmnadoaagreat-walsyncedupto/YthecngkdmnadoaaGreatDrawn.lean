import Derived.Test.YthecngkdmnadoaaGreatG00
import Derived.Deep.RegionHeld3
namespace Go.Proofs.YthecngkdmnadoaaGreat
open Go.RowKit
set_option maxRecDepth 100000
variable {P:Program} {md:Region.Mode} {ops:Array Oper} {Q:Exit→Act→World→Prop} {S:World→Prop}
theorem region_at{id:Nat}{a:Act}{w:World}(k:Nat)(hk:ops.size=k)(hm:P.follows .mixedOrders=true)(hS:S w.drew)(h:S w.drew→wpAnyH P .any ops Q S k (Array.replicate k false) a w.drew):(Code.region id ops true).wp P Q a w:=by
 subst hk;exact wp_region_held_drew hm hS h
theorem take_at{i:Nat}{oi:Oper}{v:Value}{fuel:Nat}{listed:Array Bool}{tmps:Array Value}{df:List Deferred}{w:World}(t:Tmp)(hi:ops[i]?=some oi)(hd:oi.dst=some t)
 (hs:Region.noSelect ops=true) (hf:Region.free md ops listed i=true) (hr:(Region.ready md ops listed).contains i=true)
 (hQ:∀c a w,Q (.panic c) (a.put oi.dst v) w→Q (.panic c) a w) (hw:Region.wanted oi (yielded ops tmps)=true) (hy:∀w,S w→(execOp (Act.eval { tmps:=tmps,defers:=df }) oi).run P w = .ok (.value v) w) (hS:S w)
 (h:wpAnyH P md ops Q S fuel (listed.setIfInBounds i true) { tmps:=tmps.setIfInBounds t v,defers:=df } w):wpAnyH P md ops Q S (fuel+1) listed { tmps:=tmps,defers:=df } w:=by
 refine wpAnyH_take hi hs hf hr hQ (.inl ⟨hw,hy⟩) hS ?_;rw[hd];exact h
theorem one_value{i:Nat}{o:Oper}{fuel:Nat}{listed:Array Bool}{tmps:Array Value}{df:List Deferred}{w w':World}{v:Value}(t:Tmp)(hr:Region.ready md ops listed=[i])(ho:ops[i]?=some o)(hd:o.dst=some t)(hw:Region.wanted o (yielded ops tmps)=true)
 (hrun:(execOp (Act.eval { tmps:=tmps,defers:=df }) o).run P w = .ok (.value v) w') (hS:S w') (h:S w'→wpAnyH P md ops Q S fuel (listed.setIfInBounds i true) { tmps:=tmps.setIfInBounds t v,defers:=df } w'):wpAnyH P md ops Q S (fuel+1) listed { tmps:=tmps,defers:=df } w:=by
 refine wpAnyH_ready hr (by simp) (AllReadyH.cons ho (fun K hK=>?_) AllReadyH.nil);rw[if_pos hw];unfold Oper.wp;rw[hrun,Oper.upon_value,hd];exact hK.out _ _ hS h
theorem two_value{i j:Nat}{o o':Oper}{fuel:Nat}{listed:Array Bool}{tmps:Array Value}{df:List Deferred}{w w1 w2:World}{v v':Value}(t t':Tmp)(hr:Region.ready md ops listed=[i,j])(ho:ops[i]?=some o)(ho':ops[j]?=some o')(hd:o.dst=some t)(hd':o'.dst=some t')(hw:Region.wanted o (yielded ops tmps)=true)(hw':Region.wanted o' (yielded ops tmps)=true)
 (hrun:(execOp (Act.eval { tmps:=tmps,defers:=df }) o).run P w = .ok (.value v) w1) (hS:S w1) (h:S w1→wpAnyH P md ops Q S fuel (listed.setIfInBounds i true) { tmps:=tmps.setIfInBounds t v,defers:=df } w1)
 (hrun':(execOp (Act.eval { tmps:=tmps,defers:=df }) o').run P w = .ok (.value v') w2) (hS':S w2) (h':S w2→wpAnyH P md ops Q S fuel (listed.setIfInBounds j true) { tmps:=tmps.setIfInBounds t' v',defers:=df } w2):wpAnyH P md ops Q S (fuel+1) listed { tmps:=tmps,defers:=df } w:=by
 refine wpAnyH_ready hr (by simp) (AllReadyH.cons ho (fun K hK=>?_) (AllReadyH.cons ho' (fun K hK=>?_) AllReadyH.nil))
 · rw[if_pos hw]
   unfold Oper.wp;rw[hrun,Oper.upon_value,hd];exact hK.out _ _ hS h
 · rw[if_pos hw']
   unfold Oper.wp;rw[hrun',Oper.upon_value,hd'];exact hK.out _ _ hS' h'
theorem one_at{i:Nat}{o:Oper}{fuel:Nat}{listed:Array Bool}{tmps:Array Value}{df:List Deferred}{w:World}(t:Tmp)(hr:Region.ready md ops listed=[i])(ho:ops[i]?=some o)(hd:o.dst=some t)(hw:Region.wanted o (yielded ops tmps)=true)
 (h:∀K:Act→World→Prop,(∀v w',S w'→(S w'→wpAnyH P md ops Q S fuel (listed.setIfInBounds i true) { tmps:=tmps.setIfInBounds t v,defers:=df } w')→K (Act.put { tmps:=tmps,defers:=df } o.dst v) w')→o.wp P { tmps:=tmps,defers:=df } w K Q):wpAnyH P md ops Q S (fuel+1) listed { tmps:=tmps,defers:=df } w:=by
 refine wpAnyH_ready hr (by simp) (AllReadyH.cons ho (fun K hK=>?_) AllReadyH.nil);rw[if_pos hw];refine h K fun v w' hS h=>?_
 rw[hd];exact hK.out _ _ hS h
theorem triv_facts{w:World}(_:(fun _:World=>True) w):True:=trivial
theorem two_at{i j:Nat}{o o':Oper}{fuel:Nat}{listed:Array Bool}{tmps:Array Value}{df:List Deferred}{w:World}(t t':Tmp)(hr:Region.ready md ops listed=[i,j])(ho:ops[i]?=some o)(ho':ops[j]?=some o')(hd:o.dst=some t)(hd':o'.dst=some t')(hw:Region.wanted o (yielded ops tmps)=true)(hw':Region.wanted o' (yielded ops tmps)=true)
 (h:∀K:Act→World→Prop,(∀v w',S w'→(S w'→wpAnyH P md ops Q S fuel (listed.setIfInBounds i true) { tmps:=tmps.setIfInBounds t v,defers:=df } w')→K (Act.put { tmps:=tmps,defers:=df } o.dst v) w')→o.wp P { tmps:=tmps,defers:=df } w K Q)
 (h':∀K:Act→World→Prop,(∀v w',S w'→(S w'→wpAnyH P md ops Q S fuel (listed.setIfInBounds j true) { tmps:=tmps.setIfInBounds t' v,defers:=df } w')→K (Act.put { tmps:=tmps,defers:=df } o'.dst v) w')→o'.wp P { tmps:=tmps,defers:=df } w K Q):wpAnyH P md ops Q S (fuel+1) listed { tmps:=tmps,defers:=df } w:=by
 refine wpAnyH_ready hr (by simp) (AllReadyH.cons ho (fun K hK=>?_) (AllReadyH.cons ho' (fun K hK=>?_) AllReadyH.nil))
 · rw[if_pos hw]
   (refine h K fun v w' hS h=>?_);rw[hd];exact hK.out _ _ hS h
 · rw[if_pos hw']
   (refine h' K fun v w' hS h=>?_);rw[hd'];exact hK.out _ _ hS h
theorem one_skip{i:Nat}{o:Oper}{fuel:Nat}{listed:Array Bool}{tmps:Array Value}{df:List Deferred}{w w':World}(hr:Region.ready md ops listed=[i])(ho:ops[i]?=some o)(hd:o.dst=none)(hw:Region.wanted o (yielded ops tmps)=true)
 (hrun:(execOp (Act.eval { tmps:=tmps,defers:=df }) o).run P w = .ok .skip w') (hS:S w') (h:S w'→wpAnyH P md ops Q S fuel (listed.setIfInBounds i true) { tmps:=tmps,defers:=df } w'):wpAnyH P md ops Q S (fuel+1) listed { tmps:=tmps,defers:=df } w:=by
 refine wpAnyH_ready hr (by simp) (AllReadyH.cons ho (fun K hK=>?_) AllReadyH.nil);rw[if_pos hw];unfold Oper.wp;rw[hrun,Oper.upon_skip,hd];exact hK.out _ _ hS h
theorem wp_val{o:Oper}{a:Act}{w w':World}{v:Value}{K:Act→World→Prop}(hrun:(execOp a.eval o).run P w = .ok (.value v) w')(h:K (a.put o.dst v) w'):o.wp P a w K Q:=by
 unfold Oper.wp;rw[hrun];exact h
theorem wp_enter{o:Oper}{a:Act}{w w0:World}{K:Act→World→Prop}(f:FuncId)(args:Array Value)(hrun:(execOp a.eval o).run P w = .ok (.enter f args) w0)(h:Calls P f args w0 fun e w'=>∃v,e = .returned v∧K (a.put o.dst v) w'):o.wp P a w K Q:=by
 unfold Oper.wp;rw[hrun,Oper.upon_enter];refine h.mono ?_;rintro e w' ⟨v,rfl,h2⟩;exact h2
theorem one_call{i:Nat}{o:Oper}{fuel:Nat}{listed:Array Bool}{tmps:Array Value}{df:List Deferred}{w w0:World}(t:Tmp)(f:FuncId)(args:Array Value)(hr:Region.ready md ops listed=[i])(ho:ops[i]?=some o)(hd:o.dst=some t)(hw:Region.wanted o (yielded ops tmps)=true)
 (hrun:(execOp (Act.eval { tmps:=tmps,defers:=df }) o).run P w = .ok (.enter f args) w0)
 (h:Calls P f args w0 fun e w'=>∃v,e = .returned v∧S w'∧(S w'→wpAnyH P md ops Q S fuel (listed.setIfInBounds i true) { tmps:=tmps.setIfInBounds t v,defers:=df } w')):wpAnyH P md ops Q S (fuel+1) listed { tmps:=tmps,defers:=df } w:=by
 refine one_at t hr ho hd hw fun K hK=>?_
 unfold Oper.wp;rw[hrun,Oper.upon_enter];refine h.mono ?_;rintro e w' ⟨v,rfl,hS,h2⟩;exact hK v w' hS h2
theorem exec_lookup(ρ:Operand→Value)(x y:Operand)(c:Bool)(t:TypeId)(dst:Option Tmp)(ty:TypeId)(pos:String)(af:Array Edge)(g:Option (Nat×Bool))(w:World):
 (execOp ρ ⟨dst,.lookup t x y c,ty,pos,af,g⟩).run P w=((Instr.lookup t (ρ x) (ρ y) c).run P w).andThen (fun v w' => .ok (.value v) w'):=by
 simp only[execOp,Sem.run_bind,Sem.run_pure]
end Go.Proofs.YthecngkdmnadoaaGreat
