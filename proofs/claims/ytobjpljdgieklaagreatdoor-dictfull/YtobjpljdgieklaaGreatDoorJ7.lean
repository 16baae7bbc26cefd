import Derived.Test.YtobjpljdgieklaaGreatDoorJ5
import Derived.Deep.RegionHeld3
import Derived.Shelf.Spec.SlicesGrow
import Derived.Deep.QuietTactic
import Derived.BigQuiet
set_option maxRecDepth 100000
namespace Go.Proofs.YtobjpljdgieklaaGreatDoor
section
open Go.RowKit
variable {P:Program} {md:Region.Mode} {ops:Array Oper} {Q:Exit→Act→World→Prop} {S:World→Prop}
theorem zAd{id:Nat}{a:Act}{w:World}(k:Nat)(hk:ops.size=k)(hm:P.follows .mixedOrders=true)(hS:S w.drew)(h:S w.drew→wpAnyH P .any ops Q S k (Array.replicate k false) a w.drew):(Code.region id ops true).wp P Q a w:=by
 subst hk;exact wp_region_held_drew hm hS h
theorem zCh{i:Nat}{oi:Oper}{v:Value}{fuel:Nat}{listed:Array Bool}{tmps:Array Value}{df:List Deferred}{w:World}(t:Tmp)(hi:ops[i]?=some oi)(hd:oi.dst=some t)
 (hs:Region.noSelect ops=true) (hf:Region.free md ops listed i=true) (hr:(Region.ready md ops listed).contains i=true)
 (hQ:∀c a w,Q (.panic c) (a.put oi.dst v) w→Q (.panic c) a w) (hw:Region.wanted oi (yielded ops tmps)=true) (hy:∀w,S w→(execOp (Act.eval { tmps:=tmps,defers:=df }) oi).run P w = .ok (.value v) w) (hS:S w)
 (h:wpAnyH P md ops Q S fuel (listed.setIfInBounds i true) { tmps:=tmps.setIfInBounds t v,defers:=df } w):wpAnyH P md ops Q S (fuel+1) listed { tmps:=tmps,defers:=df } w:=by
 refine wpAnyH_take hi hs hf hr hQ (.inl ⟨hw,hy⟩) hS ?_;rw[hd];exact h
theorem sZa{α:Type}(l:List α)(i:Nat)(a:α):l.toArray.setIfInBounds i a=(l.set i a).toArray:=List.setIfInBounds_toArray ..
theorem sZb{α:Type}(x:α)(l:List α)(a:α):(x::l).set 0 a=a::l:=rfl
theorem sZc{α:Type}(x:α)(l:List α)(i:Nat)(a:α):(x::l).set (i+1) a=x::l.set i a:=rfl
theorem tk{i:Nat}{oi:Oper}{v:Value}{fuel:Nat}{listed:Array Bool}{tmps:Array Value}{df:List Deferred}{w:World}(t:Tmp)(hi:ops[i]?=some oi)(hd:oi.dst=some t)
 (hk:(Region.noSelect ops&&Region.free md ops listed i&&(Region.ready md ops listed).contains i)=true)
 (hy:∀w,S w→(execOp (Act.eval { tmps:=tmps,defers:=df }) oi).run P w = .ok (.value v) w)
 (h:wpAnyH P md ops Q S fuel (listed.setIfInBounds i true) { tmps:=tmps.setIfInBounds t v,defers:=df } w) (hQ:∀c a w,Q (.panic c) (a.put oi.dst v) w→Q (.panic c) a w:=by exact fun _ _ _ h=>h) (hw:Region.wanted oi (yielded ops tmps)=true:=by rfl) (hS:S w:=by assumption):wpAnyH P md ops Q S (fuel+1) listed { tmps:=tmps,defers:=df } w:=by
 simp only[Bool.and_eq_true]at hk;exact zCh t hi hd hk.1.1 hk.1.2 hk.2 hQ hw hy hS h
theorem tq{Fx:World→Prop}(F:∀{w},S w→Fx w)(i0:Nat)(t0:Tmp){o0:Oper}{v0:Value}{fuel:Nat}{listed:Array Bool}{tmps:Array Value}{df:List Deferred}{w:World}(h:wpAnyH P md ops Q S fuel (listed.setIfInBounds i0 true) { tmps:=(tmps.setIfInBounds t0 v0),defers:=df } w)(hi0:ops[i0]?=some o0:=by rfl)(hd0:o0.dst=some t0:=by rfl)(hk0:(Region.noSelect ops&&Region.free md ops listed i0&&(Region.ready md ops listed).contains i0)=true:=by kernel_rfl)(hy0:∀w,Fx w→(execOp (Act.eval { tmps:=tmps,defers:=df }) o0).run P w = .ok (.value v0) w:=by(intro _ h;go_simp;first|done|exact rfl))(hQ0:∀c a w,Q (.panic c) (a.put o0.dst v0) w→Q (.panic c) a w:=by exact fun _ _ _ h=>h)(hw0:Region.wanted o0 (yielded ops tmps)=true:=by rfl)(hS:S w:=by assumption):wpAnyH P md ops Q S (fuel+1) listed { tmps:=tmps,defers:=df } w:=by
 exact tk t0 hi0 hd0 hk0 (fun w s=>hy0 w (F s)) h hQ0 hw0 hS
theorem tq2{Fx:World→Prop}(F:∀{w},S w→Fx w)(i0:Nat)(t0:Tmp)(i1:Nat)(t1:Tmp){o0:Oper}{v0:Value}{o1:Oper}{v1:Value}{fuel:Nat}{listed:Array Bool}{tmps:Array Value}{df:List Deferred}{w:World}(h:wpAnyH P md ops Q S fuel ((listed.setIfInBounds i0 true).setIfInBounds i1 true) { tmps:=((tmps.setIfInBounds t0 v0).setIfInBounds t1 v1),defers:=df } w)(hi0:ops[i0]?=some o0:=by rfl)(hd0:o0.dst=some t0:=by rfl)(hk0:(Region.noSelect ops&&Region.free md ops listed i0&&(Region.ready md ops listed).contains i0)=true:=by kernel_rfl)(hy0:∀w,Fx w→(execOp (Act.eval { tmps:=tmps,defers:=df }) o0).run P w = .ok (.value v0) w:=by(intro _ h;go_simp;first|done|exact rfl))(hQ0:∀c a w,Q (.panic c) (a.put o0.dst v0) w→Q (.panic c) a w:=by exact fun _ _ _ h=>h)(hw0:Region.wanted o0 (yielded ops tmps)=true:=by rfl)(hi1:ops[i1]?=some o1:=by rfl)(hd1:o1.dst=some t1:=by rfl)(hk1:(Region.noSelect ops&&Region.free md ops (listed.setIfInBounds i0 true) i1&&(Region.ready md ops (listed.setIfInBounds i0 true)).contains i1)=true:=by kernel_rfl)(hy1:∀w,Fx w→(execOp (Act.eval { tmps:=(tmps.setIfInBounds t0 v0),defers:=df }) o1).run P w = .ok (.value v1) w:=by(intro _ h;simp only[sZa,sZb,sZc];go_simp;first|done|exact rfl))(hQ1:∀c a w,Q (.panic c) (a.put o1.dst v1) w→Q (.panic c) a w:=by exact fun _ _ _ h=>h)(hw1:Region.wanted o1 (yielded ops (tmps.setIfInBounds t0 v0))=true:=by rfl)(hS:S w:=by assumption):wpAnyH P md ops Q S (fuel+2) listed { tmps:=tmps,defers:=df } w:=by
 exact tq F i0 t0 (tq F i1 t1 (h) hi1 hd1 hk1 hy1 hQ1 hw1 hS) hi0 hd0 hk0 hy0 hQ0 hw0 hS
theorem tq4{Fx:World→Prop}(F:∀{w},S w→Fx w)(i0:Nat)(t0:Tmp)(i1:Nat)(t1:Tmp)(i2:Nat)(t2:Tmp)(i3:Nat)(t3:Tmp){o0:Oper}{v0:Value}{o1:Oper}{v1:Value}{o2:Oper}{v2:Value}{o3:Oper}{v3:Value}{fuel:Nat}{listed:Array Bool}{tmps:Array Value}{df:List Deferred}{w:World}(h:wpAnyH P md ops Q S fuel ((((listed.setIfInBounds i0 true).setIfInBounds i1 true).setIfInBounds i2 true).setIfInBounds i3 true) { tmps:=((((tmps.setIfInBounds t0 v0).setIfInBounds t1 v1).setIfInBounds t2 v2).setIfInBounds t3 v3),defers:=df } w)(hi0:ops[i0]?=some o0:=by rfl)(hd0:o0.dst=some t0:=by rfl)(hk0:(Region.noSelect ops&&Region.free md ops listed i0&&(Region.ready md ops listed).contains i0)=true:=by kernel_rfl)(hy0:∀w,Fx w→(execOp (Act.eval { tmps:=tmps,defers:=df }) o0).run P w = .ok (.value v0) w:=by(intro _ h;go_simp;first|done|exact rfl))(hQ0:∀c a w,Q (.panic c) (a.put o0.dst v0) w→Q (.panic c) a w:=by exact fun _ _ _ h=>h)(hw0:Region.wanted o0 (yielded ops tmps)=true:=by rfl)(hi1:ops[i1]?=some o1:=by rfl)(hd1:o1.dst=some t1:=by rfl)(hk1:(Region.noSelect ops&&Region.free md ops (listed.setIfInBounds i0 true) i1&&(Region.ready md ops (listed.setIfInBounds i0 true)).contains i1)=true:=by kernel_rfl)(hy1:∀w,Fx w→(execOp (Act.eval { tmps:=(tmps.setIfInBounds t0 v0),defers:=df }) o1).run P w = .ok (.value v1) w:=by(intro _ h;simp only[sZa,sZb,sZc];go_simp;first|done|exact rfl))(hQ1:∀c a w,Q (.panic c) (a.put o1.dst v1) w→Q (.panic c) a w:=by exact fun _ _ _ h=>h)(hw1:Region.wanted o1 (yielded ops (tmps.setIfInBounds t0 v0))=true:=by rfl)(hi2:ops[i2]?=some o2:=by rfl)(hd2:o2.dst=some t2:=by rfl)(hk2:(Region.noSelect ops&&Region.free md ops ((listed.setIfInBounds i0 true).setIfInBounds i1 true) i2&&(Region.ready md ops ((listed.setIfInBounds i0 true).setIfInBounds i1 true)).contains i2)=true:=by kernel_rfl)(hy2:∀w,Fx w→(execOp (Act.eval { tmps:=((tmps.setIfInBounds t0 v0).setIfInBounds t1 v1),defers:=df }) o2).run P w = .ok (.value v2) w:=by(intro _ h;simp only[sZa,sZb,sZc];go_simp;first|done|exact rfl))(hQ2:∀c a w,Q (.panic c) (a.put o2.dst v2) w→Q (.panic c) a w:=by exact fun _ _ _ h=>h)(hw2:Region.wanted o2 (yielded ops ((tmps.setIfInBounds t0 v0).setIfInBounds t1 v1))=true:=by rfl)(hi3:ops[i3]?=some o3:=by rfl)(hd3:o3.dst=some t3:=by rfl)(hk3:(Region.noSelect ops&&Region.free md ops (((listed.setIfInBounds i0 true).setIfInBounds i1 true).setIfInBounds i2 true) i3&&(Region.ready md ops (((listed.setIfInBounds i0 true).setIfInBounds i1 true).setIfInBounds i2 true)).contains i3)=true:=by kernel_rfl)(hy3:∀w,Fx w→(execOp (Act.eval { tmps:=(((tmps.setIfInBounds t0 v0).setIfInBounds t1 v1).setIfInBounds t2 v2),defers:=df }) o3).run P w = .ok (.value v3) w:=by(intro _ h;simp only[sZa,sZb,sZc];go_simp;first|done|exact rfl))(hQ3:∀c a w,Q (.panic c) (a.put o3.dst v3) w→Q (.panic c) a w:=by exact fun _ _ _ h=>h)(hw3:Region.wanted o3 (yielded ops (((tmps.setIfInBounds t0 v0).setIfInBounds t1 v1).setIfInBounds t2 v2))=true:=by rfl)(hS:S w:=by assumption):wpAnyH P md ops Q S (fuel+4) listed { tmps:=tmps,defers:=df } w:=by
 exact tq F i0 t0 (tq F i1 t1 (tq F i2 t2 (tq F i3 t3 (h) hi3 hd3 hk3 hy3 hQ3 hw3 hS) hi2 hd2 hk2 hy2 hQ2 hw2 hS) hi1 hd1 hk1 hy1 hQ1 hw1 hS) hi0 hd0 hk0 hy0 hQ0 hw0 hS
theorem zAu{i:Nat}{o:Oper}{fuel:Nat}{listed:Array Bool}{tmps:Array Value}{df:List Deferred}{w w':World}{v:Value}(t:Tmp)(hr:Region.ready md ops listed=[i])(ho:ops[i]?=some o)(hd:o.dst=some t)(hw:Region.wanted o (yielded ops tmps)=true)
 (hrun:(execOp (Act.eval { tmps:=tmps,defers:=df }) o).run P w = .ok (.value v) w') (hS:S w') (h:S w'→wpAnyH P md ops Q S fuel (listed.setIfInBounds i true) { tmps:=tmps.setIfInBounds t v,defers:=df } w'):wpAnyH P md ops Q S (fuel+1) listed { tmps:=tmps,defers:=df } w:=by
 refine wpAnyH_ready hr (by simp) (AllReadyH.cons ho (fun K hK=>?_) AllReadyH.nil);rw[if_pos hw];unfold Oper.wp;rw[hrun,Oper.upon_value,hd];exact hK.out _ _ hS h
theorem one_at{i:Nat}{o:Oper}{fuel:Nat}{listed:Array Bool}{tmps:Array Value}{df:List Deferred}{w:World}(t:Tmp)(hr:Region.ready md ops listed=[i])(ho:ops[i]?=some o)(hd:o.dst=some t)(hw:Region.wanted o (yielded ops tmps)=true)
 (h:∀K:Act→World→Prop,(∀v w',S w'→(S w'→wpAnyH P md ops Q S fuel (listed.setIfInBounds i true) { tmps:=tmps.setIfInBounds t v,defers:=df } w')→K (Act.put { tmps:=tmps,defers:=df } o.dst v) w')→o.wp P { tmps:=tmps,defers:=df } w K Q):wpAnyH P md ops Q S (fuel+1) listed { tmps:=tmps,defers:=df } w:=by
 refine wpAnyH_ready hr (by simp) (AllReadyH.cons ho (fun K hK=>?_) AllReadyH.nil);rw[if_pos hw];refine h K fun v w' hS h=>?_
 rw[hd];exact hK.out _ _ hS h
theorem two_at{i j:Nat}{o o':Oper}{fuel:Nat}{listed:Array Bool}{tmps:Array Value}{df:List Deferred}{w:World}(t t':Tmp)(hr:Region.ready md ops listed=[i,j])(ho:ops[i]?=some o)(ho':ops[j]?=some o')(hd:o.dst=some t)(hd':o'.dst=some t')(hw:Region.wanted o (yielded ops tmps)=true)(hw':Region.wanted o' (yielded ops tmps)=true)
 (h:∀K:Act→World→Prop,(∀v w',S w'→(S w'→wpAnyH P md ops Q S fuel (listed.setIfInBounds i true) { tmps:=tmps.setIfInBounds t v,defers:=df } w')→K (Act.put { tmps:=tmps,defers:=df } o.dst v) w')→o.wp P { tmps:=tmps,defers:=df } w K Q)
 (h':∀K:Act→World→Prop,(∀v w',S w'→(S w'→wpAnyH P md ops Q S fuel (listed.setIfInBounds j true) { tmps:=tmps.setIfInBounds t' v,defers:=df } w')→K (Act.put { tmps:=tmps,defers:=df } o'.dst v) w')→o'.wp P { tmps:=tmps,defers:=df } w K Q):wpAnyH P md ops Q S (fuel+1) listed { tmps:=tmps,defers:=df } w:=by
 refine wpAnyH_ready hr (by simp) (AllReadyH.cons ho (fun K hK=>?_) (AllReadyH.cons ho' (fun K hK=>?_) AllReadyH.nil))
 · rw[if_pos hw]
   (refine h K fun v w' hS h=>?_);rw[hd];exact hK.out _ _ hS h
 · rw[if_pos hw']
   (refine h' K fun v w' hS h=>?_);rw[hd'];exact hK.out _ _ hS h
theorem zCc{i:Nat}{o:Oper}{fuel:Nat}{listed:Array Bool}{tmps:Array Value}{df:List Deferred}{w w':World}(hr:Region.ready md ops listed=[i])(ho:ops[i]?=some o)(hd:o.dst=none)(hw:Region.wanted o (yielded ops tmps)=true)
 (hrun:(execOp (Act.eval { tmps:=tmps,defers:=df }) o).run P w = .ok .skip w') (hS:S w') (h:S w'→wpAnyH P md ops Q S fuel (listed.setIfInBounds i true) { tmps:=tmps,defers:=df } w'):wpAnyH P md ops Q S (fuel+1) listed { tmps:=tmps,defers:=df } w:=by
 refine wpAnyH_ready hr (by simp) (AllReadyH.cons ho (fun K hK=>?_) AllReadyH.nil);rw[if_pos hw];unfold Oper.wp;rw[hrun,Oper.upon_skip,hd];exact hK.out _ _ hS h
theorem wp_val{o:Oper}{a:Act}{w w':World}{v:Value}{K:Act→World→Prop}(hrun:(execOp a.eval o).run P w = .ok (.value v) w')(h:K (a.put o.dst v) w'):o.wp P a w K Q:=by
 unfold Oper.wp;rw[hrun];exact h
theorem zPw{o:Oper}{a:Act}{w w0:World}{K:Act→World→Prop}(f:FuncId)(args:Array Value)(hrun:(execOp a.eval o).run P w = .ok (.enter f args) w0)(h:Calls P f args w0 fun e w'=>∃v,e = .returned v∧K (a.put o.dst v) w'):o.wp P a w K Q:=by
 unfold Oper.wp;rw[hrun,Oper.upon_enter];refine h.mono ?_;rintro e w' ⟨v,rfl,h2⟩;exact h2
theorem zAe{i:Nat}{o:Oper}{fuel:Nat}{listed:Array Bool}{tmps:Array Value}{df:List Deferred}{w w0:World}(t:Tmp)(f:FuncId)(args:Array Value)(hr:Region.ready md ops listed=[i])(ho:ops[i]?=some o)(hd:o.dst=some t)(hw:Region.wanted o (yielded ops tmps)=true)
 (hrun:(execOp (Act.eval { tmps:=tmps,defers:=df }) o).run P w = .ok (.enter f args) w0)
 (h:Calls P f args w0 fun e w'=>∃v,e = .returned v∧S w'∧(S w'→wpAnyH P md ops Q S fuel (listed.setIfInBounds i true) { tmps:=tmps.setIfInBounds t v,defers:=df } w')):wpAnyH P md ops Q S (fuel+1) listed { tmps:=tmps,defers:=df } w:=by
 refine one_at t hr ho hd hw fun K hK=>?_
 unfold Oper.wp;rw[hrun,Oper.upon_enter];refine h.mono ?_;rintro e w' ⟨v,rfl,hS,h2⟩;exact hK v w' hS h2
end
section
open Go.RowKit
section
variable {P:Program} {md:Region.Mode} {ops:Array Oper} {Q:Exit→Act→World→Prop} {S:World→Prop} {z:Nat}
def zBc(P:Program)(md:Region.Mode)(ops:Array Oper)(Q:Exit→Act→World→Prop)(S:World→Prop)(z:Nat):Nat→Array Bool→Act→World→Prop
 |0,listed,a,w=>Region.ready md ops listed=[]∧Q .normal a w
 |fuel+1,listed,a,w=>
  (Region.ready md ops listed=[]→Q .normal a w) ∧
  ∀i∈Region.ready md ops listed,wpOp P ops Q i (fun a' w'=>(i≠z→S w')∧zBc P md ops Q S z fuel (listed.setIfInBounds i true) a' w') a w
theorem zGd:∀(fuel:Nat) (listed:Array Bool) (a:Act) (w:World),zBc P md ops Q S z fuel listed a w→wpAny P md ops Q fuel listed a w
 |0,_,_,_,h=>h
 |fuel+1,_,_,_,h=>⟨h.1,fun i hi=>wpOp_mono (fun a' w' h'=>zGd fuel _ a' w' h'.2) (h.2 i hi)⟩
def zDw(md:Region.Mode)(ops:Array Oper)(z i:Nat):Bool:=((ops[z]?).map fun o=>o.after.any fun e=>Region.binds md e&&e.on==i).getD false
theorem zOb{i:Nat}{listed:Array Bool}(h:zDw md ops z i=true)(hz:z∈Region.ready md ops listed):listed.getD i false=true:=by
 obtain⟨_,oz,hoz,hall⟩:=mem_ready.1 hz;unfold zDw at h;rw[hoz]at h;simp only[Option.map_some,Option.getD_some,Array.any_eq_true]at h;obtain⟨k,hk,he⟩:=h;simp only[Bool.and_eq_true,beq_iff_eq]at he;have:=hall oz.after[k] (Array.getElem_mem hk) he.1;rw[he.2]at this;exact this
theorem zL1{i:Nat}{oi:Oper}{v:Value}(hi:ops[i]?=some oi)(hsel:∀(j:Nat) (o:Oper) cs b,ops[j]?=some o→o.op ≠ .select cs b)
 (hQ:∀c a w,Q (.panic c) (a.put oi.dst v) w→Q (.panic c) a w) (hz:zDw md ops z i=true):
 ∀(fuel:Nat) (listed:Array Bool) (a:Act) (w:World),
  (∀j oj,ops[j]?=some oj→j≠i→listed.getD j true=false→(∀e∈oj.after,Region.binds md e=true→e.on≠i)→oi.apart ops oj=true) →
  i∈Region.ready md ops listed→YieldsIf P ops S oi v a→S w →
  zBc P md ops Q S z fuel (listed.setIfInBounds i true) (a.put oi.dst v) w→zBc P md ops Q S z (fuel+1) listed a w:=by
 intro fuel
 induction fuel with
 |zero=>
  intro listed a w _ hr hy hS H;refine⟨fun h=>(by rw[h]at hr;cases hr),fun j hj=>?_⟩;by_cases hji:j=i
  · subst hji;exact hy.wpOp hi hS ⟨fun _=>hS,H⟩
  · have:=ready_mono hj hji
    rw[H.1]at this;cases this
 |succ fuel ih=>
  intro listed a w hfree hr hy hS H;refine⟨fun h=>(by rw[h]at hr;cases hr),fun j hj=>?_⟩;by_cases hji:j=i
  · subst hji;exact hy.wpOp hi hS ⟨fun _=>hS,H⟩
  · have h1:=H.2 j (ready_mono hj hji)
    obtain⟨hjun,oj,hoj,hall⟩:=mem_ready.1 hj;have hnl:listed.getD i false=true→False:=fun h1=>by
     have h0:=(mem_ready.1 hr).1;rcases Nat.lt_or_ge i listed.size with h'|h'
     · simp[h']at h0 h1;rw[h0]at h1;cases h1
     · simp[Array.getElem?_eq_none h']at h1
    have hnot:∀e∈oj.after,Region.binds md e=true→e.on≠i:=fun e he hb heq=>by
     have h1:=hall e he hb;rw[heq]at h1;exact hnl h1
    (have hjz:j≠z:=fun e=>hnl (zOb hz (e▸hj)));have h2:=wpOp_putIf hoj (hfree j oj hoj hji hjun hnot) (fun cs b=>hsel i oi cs b hi) (fun cs b=>hsel j oj cs b hoj) hQ hy h1
    have hfree':∀k ok,ops[k]?=some ok→k≠i→(listed.setIfInBounds j true).getD k true=false →
     (∀e∈ok.after,Region.binds md e=true→e.on≠i)→oi.apart ops ok=true:=fun k ok hk hki hun hno=>by
     refine hfree k ok hk hki ?_ hno;by_cases hjk:j=k
     · subst hjk;exact hjun
     · rw[getD_set_ne true hjk]at hun;exact hun
    refine wpOp_mono (fun a' w' h3=>⟨h3.2.1,ih (listed.setIfInBounds j true) a' w' hfree' (ready_mono hr (Ne.symm hji)) h3.1 (h3.2.1 hjz) ?_⟩) h2;rw[Array.setIfInBounds_comm _ _ hji];exact h3.2.2
theorem zN6{i:Nat}{oi:Oper}{v:Value}{fuel:Nat}{listed:Array Bool}{a:Act}{w:World}(hi:ops[i]?=some oi)(hz:zDw md ops z i=true)
 (hs:Region.noSelect ops=true) (hf:Region.free md ops listed i=true) (hr:(Region.ready md ops listed).contains i=true)
 (hQ:∀c a w,Q (.panic c) (a.put oi.dst v) w→Q (.panic c) a w) (hy:YieldsIf P ops S oi v a) (hS:S w)
 (h:zBc P md ops Q S z fuel (listed.setIfInBounds i true) (a.put oi.dst v) w):zBc P md ops Q S z (fuel+1) listed a w:=
 zL1 hi (Region.noSelect_spec hs) hQ hz fuel listed a w (Region.free_spec hi hf) (by simpa using hr) hy hS h
theorem zN7{listed:Array Bool}{a:Act}{w:World}(hr:Region.ready md ops listed=[])(h:Q .normal a w):
 ∀fuel,zBc P md ops Q S z fuel listed a w
 |0=>⟨hr,h⟩
 |_+1=>⟨fun _=>h,by rw[hr];simp⟩
theorem zBj{id:Nat}{a:Act}{w:World}(k z:Nat)(hk:ops.size=k)(hm:P.follows .mixedOrders=true)(h:zBc P .any ops Q S z k (Array.replicate k false) a w.drew):(Code.region id ops true).wp P Q a w:=by
 subst hk;exact wp_region_any hm (zGd _ _ _ _ h)
theorem zA8{i:Nat}{oi:Oper}{v:Value}{fuel:Nat}{listed:Array Bool}{tmps:Array Value}{df:List Deferred}{w:World}(t:Tmp)(hi:ops[i]?=some oi)(hd:oi.dst=some t)(hz:zDw md ops z i=true)
 (hs:Region.noSelect ops=true) (hf:Region.free md ops listed i=true) (hr:(Region.ready md ops listed).contains i=true)
 (hQ:∀c a w,Q (.panic c) (a.put oi.dst v) w→Q (.panic c) a w) (hw:Region.wanted oi (yielded ops tmps)=true) (hy:∀w,S w→(execOp (Act.eval { tmps:=tmps,defers:=df }) oi).run P w = .ok (.value v) w) (hS:S w)
 (h:zBc P md ops Q S z fuel (listed.setIfInBounds i true) { tmps:=tmps.setIfInBounds t v,defers:=df } w):zBc P md ops Q S z (fuel+1) listed { tmps:=tmps,defers:=df } w:=by
 refine zN6 hi hz hs hf hr hQ (.inl ⟨hw,hy⟩) hS ?_;rw[hd];exact h
theorem te{Fx:World→Prop}(F:∀{w},S w→Fx w)(i0:Nat)(t0:Tmp){o0:Oper}{v0:Value}{fuel:Nat}{listed:Array Bool}{tmps:Array Value}{df:List Deferred}{w:World}(h:zBc P md ops Q S z fuel (listed.setIfInBounds i0 true) { tmps:=(tmps.setIfInBounds t0 v0),defers:=df } w)(hi0:ops[i0]?=some o0:=by rfl)(hd0:o0.dst=some t0:=by rfl)(hk0:(zDw md ops z i0&&(Region.noSelect ops&&Region.free md ops listed i0&&(Region.ready md ops listed).contains i0))=true:=by kernel_rfl)(hy0:∀w,Fx w→(execOp (Act.eval { tmps:=tmps,defers:=df }) o0).run P w = .ok (.value v0) w:=by(intro _ h;go_simp;first|done|exact rfl))(hQ0:∀c a w,Q (.panic c) (a.put o0.dst v0) w→Q (.panic c) a w:=by exact fun _ _ _ h=>h)(hw0:Region.wanted o0 (yielded ops tmps)=true:=by rfl)(hS:S w:=by assumption):zBc P md ops Q S z (fuel+1) listed { tmps:=tmps,defers:=df } w:=by
 simp only[Bool.and_eq_true]at hk0;exact zA8 t0 hi0 hd0 hk0.1 hk0.2.1.1 hk0.2.1.2 hk0.2.2 hQ0 hw0 (fun w s=>hy0 w (F s)) hS h
theorem te2{Fx:World→Prop}(F:∀{w},S w→Fx w)(i0:Nat)(t0:Tmp)(i1:Nat)(t1:Tmp){o0:Oper}{v0:Value}{o1:Oper}{v1:Value}{fuel:Nat}{listed:Array Bool}{tmps:Array Value}{df:List Deferred}{w:World}(h:zBc P md ops Q S z fuel ((listed.setIfInBounds i0 true).setIfInBounds i1 true) { tmps:=((tmps.setIfInBounds t0 v0).setIfInBounds t1 v1),defers:=df } w)(hi0:ops[i0]?=some o0:=by rfl)(hd0:o0.dst=some t0:=by rfl)(hk0:(zDw md ops z i0&&(Region.noSelect ops&&Region.free md ops listed i0&&(Region.ready md ops listed).contains i0))=true:=by kernel_rfl)(hy0:∀w,Fx w→(execOp (Act.eval { tmps:=tmps,defers:=df }) o0).run P w = .ok (.value v0) w:=by(intro _ h;go_simp;first|done|exact rfl))(hQ0:∀c a w,Q (.panic c) (a.put o0.dst v0) w→Q (.panic c) a w:=by exact fun _ _ _ h=>h)(hw0:Region.wanted o0 (yielded ops tmps)=true:=by rfl)(hi1:ops[i1]?=some o1:=by rfl)(hd1:o1.dst=some t1:=by rfl)(hk1:(zDw md ops z i1&&(Region.noSelect ops&&Region.free md ops (listed.setIfInBounds i0 true) i1&&(Region.ready md ops (listed.setIfInBounds i0 true)).contains i1))=true:=by kernel_rfl)(hy1:∀w,Fx w→(execOp (Act.eval { tmps:=(tmps.setIfInBounds t0 v0),defers:=df }) o1).run P w = .ok (.value v1) w:=by(intro _ h;simp only[sZa,sZb,sZc];go_simp;first|done|exact rfl))(hQ1:∀c a w,Q (.panic c) (a.put o1.dst v1) w→Q (.panic c) a w:=by exact fun _ _ _ h=>h)(hw1:Region.wanted o1 (yielded ops (tmps.setIfInBounds t0 v0))=true:=by rfl)(hS:S w:=by assumption):zBc P md ops Q S z (fuel+2) listed { tmps:=tmps,defers:=df } w:=by
 exact te F i0 t0 (te F i1 t1 (h) hi1 hd1 hk1 hy1 hQ1 hw1 hS) hi0 hd0 hk0 hy0 hQ0 hw0 hS
theorem te4{Fx:World→Prop}(F:∀{w},S w→Fx w)(i0:Nat)(t0:Tmp)(i1:Nat)(t1:Tmp)(i2:Nat)(t2:Tmp)(i3:Nat)(t3:Tmp){o0:Oper}{v0:Value}{o1:Oper}{v1:Value}{o2:Oper}{v2:Value}{o3:Oper}{v3:Value}{fuel:Nat}{listed:Array Bool}{tmps:Array Value}{df:List Deferred}{w:World}(h:zBc P md ops Q S z fuel ((((listed.setIfInBounds i0 true).setIfInBounds i1 true).setIfInBounds i2 true).setIfInBounds i3 true) { tmps:=((((tmps.setIfInBounds t0 v0).setIfInBounds t1 v1).setIfInBounds t2 v2).setIfInBounds t3 v3),defers:=df } w)(hi0:ops[i0]?=some o0:=by rfl)(hd0:o0.dst=some t0:=by rfl)(hk0:(zDw md ops z i0&&(Region.noSelect ops&&Region.free md ops listed i0&&(Region.ready md ops listed).contains i0))=true:=by kernel_rfl)(hy0:∀w,Fx w→(execOp (Act.eval { tmps:=tmps,defers:=df }) o0).run P w = .ok (.value v0) w:=by(intro _ h;go_simp;first|done|exact rfl))(hQ0:∀c a w,Q (.panic c) (a.put o0.dst v0) w→Q (.panic c) a w:=by exact fun _ _ _ h=>h)(hw0:Region.wanted o0 (yielded ops tmps)=true:=by rfl)(hi1:ops[i1]?=some o1:=by rfl)(hd1:o1.dst=some t1:=by rfl)(hk1:(zDw md ops z i1&&(Region.noSelect ops&&Region.free md ops (listed.setIfInBounds i0 true) i1&&(Region.ready md ops (listed.setIfInBounds i0 true)).contains i1))=true:=by kernel_rfl)(hy1:∀w,Fx w→(execOp (Act.eval { tmps:=(tmps.setIfInBounds t0 v0),defers:=df }) o1).run P w = .ok (.value v1) w:=by(intro _ h;simp only[sZa,sZb,sZc];go_simp;first|done|exact rfl))(hQ1:∀c a w,Q (.panic c) (a.put o1.dst v1) w→Q (.panic c) a w:=by exact fun _ _ _ h=>h)(hw1:Region.wanted o1 (yielded ops (tmps.setIfInBounds t0 v0))=true:=by rfl)(hi2:ops[i2]?=some o2:=by rfl)(hd2:o2.dst=some t2:=by rfl)(hk2:(zDw md ops z i2&&(Region.noSelect ops&&Region.free md ops ((listed.setIfInBounds i0 true).setIfInBounds i1 true) i2&&(Region.ready md ops ((listed.setIfInBounds i0 true).setIfInBounds i1 true)).contains i2))=true:=by kernel_rfl)(hy2:∀w,Fx w→(execOp (Act.eval { tmps:=((tmps.setIfInBounds t0 v0).setIfInBounds t1 v1),defers:=df }) o2).run P w = .ok (.value v2) w:=by(intro _ h;simp only[sZa,sZb,sZc];go_simp;first|done|exact rfl))(hQ2:∀c a w,Q (.panic c) (a.put o2.dst v2) w→Q (.panic c) a w:=by exact fun _ _ _ h=>h)(hw2:Region.wanted o2 (yielded ops ((tmps.setIfInBounds t0 v0).setIfInBounds t1 v1))=true:=by rfl)(hi3:ops[i3]?=some o3:=by rfl)(hd3:o3.dst=some t3:=by rfl)(hk3:(zDw md ops z i3&&(Region.noSelect ops&&Region.free md ops (((listed.setIfInBounds i0 true).setIfInBounds i1 true).setIfInBounds i2 true) i3&&(Region.ready md ops (((listed.setIfInBounds i0 true).setIfInBounds i1 true).setIfInBounds i2 true)).contains i3))=true:=by kernel_rfl)(hy3:∀w,Fx w→(execOp (Act.eval { tmps:=(((tmps.setIfInBounds t0 v0).setIfInBounds t1 v1).setIfInBounds t2 v2),defers:=df }) o3).run P w = .ok (.value v3) w:=by(intro _ h;simp only[sZa,sZb,sZc];go_simp;first|done|exact rfl))(hQ3:∀c a w,Q (.panic c) (a.put o3.dst v3) w→Q (.panic c) a w:=by exact fun _ _ _ h=>h)(hw3:Region.wanted o3 (yielded ops (((tmps.setIfInBounds t0 v0).setIfInBounds t1 v1).setIfInBounds t2 v2))=true:=by rfl)(hS:S w:=by assumption):zBc P md ops Q S z (fuel+4) listed { tmps:=tmps,defers:=df } w:=by
 exact te F i0 t0 (te F i1 t1 (te F i2 t2 (te F i3 t3 (h) hi3 hd3 hk3 hy3 hQ3 hw3 hS) hi2 hd2 hk2 hy2 hQ2 hw2 hS) hi1 hd1 hk1 hy1 hQ1 hw1 hS) hi0 hd0 hk0 hy0 hQ0 hw0 hS
theorem zOr{i:Nat}{o:Oper}{fuel:Nat}{listed:Array Bool}{a:Act}{w:World}(hr:Region.ready md ops listed=[i])(ho:ops[i]?=some o)(hw:Region.wanted o (yielded ops a.tmps)=true)
 (h:o.wp P a w (fun a' w'=>(i≠z→S w')∧zBc P md ops Q S z fuel (listed.setIfInBounds i true) a' w') Q):zBc P md ops Q S z (fuel+1) listed a w:=by
 refine⟨fun e=>(by rw[hr]at e;cases e),fun j hj=>?_⟩;rw[hr,List.mem_singleton]at hj;subst hj;unfold wpOp;simp only[ho,hw,if_true];exact .inl h
theorem zH5{i:Nat}{o:Oper}{fuel:Nat}{listed:Array Bool}{tmps:Array Value}{df:List Deferred}{w w0:World}(t:Tmp)(f:FuncId)(args:Array Value)(hr:Region.ready md ops listed=[i])(ho:ops[i]?=some o)(hd:o.dst=some t)(hw:Region.wanted o (yielded ops tmps)=true)
 (hrun:(execOp (Act.eval { tmps:=tmps,defers:=df }) o).run P w = .ok (.enter f args) w0)
 (h:Calls P f args w0 fun e w'=>∃v,e = .returned v∧S w'∧zBc P md ops Q S z fuel (listed.setIfInBounds i true) { tmps:=tmps.setIfInBounds t v,defers:=df } w'):zBc P md ops Q S z (fuel+1) listed { tmps:=tmps,defers:=df } w:=by
 refine zOr hr ho hw ?_;unfold Oper.wp;rw[hrun,Oper.upon_enter];refine h.mono ?_;rintro e w' ⟨v,rfl,hS,h2⟩;refine⟨fun _=>hS,?_⟩;rw[hd];exact h2
theorem zAi{i:Nat}{o:Oper}{fuel:Nat}{listed:Array Bool}{tmps:Array Value}{df:List Deferred}{w w':World}{v:Value}(t:Tmp)(hr:Region.ready md ops listed=[i])(ho:ops[i]?=some o)(hd:o.dst=some t)(hw:Region.wanted o (yielded ops tmps)=true)
 (hrun:(execOp (Act.eval { tmps:=tmps,defers:=df }) o).run P w = .ok (.value v) w') (hS:S w') (h:zBc P md ops Q S z fuel (listed.setIfInBounds i true) { tmps:=tmps.setIfInBounds t v,defers:=df } w'):zBc P md ops Q S z (fuel+1) listed { tmps:=tmps,defers:=df } w:=by
 refine zOr hr ho hw ?_;unfold Oper.wp;rw[hrun,Oper.upon_value,hd];exact⟨fun _=>hS,h⟩
theorem zBb{o:Oper}{fuel:Nat}{listed:Array Bool}{a:Act}{w w':World}(hr:Region.ready md ops listed=[z])(ho:ops[z]?=some o)(hd:o.dst=none)(hw:Region.wanted o (yielded ops a.tmps)=true)
 (hrun:(execOp a.eval o).run P w = .ok .skip w') (hend:Region.ready md ops (listed.setIfInBounds z true)=[]) (h:Q .normal a w'):zBc P md ops Q S z (fuel+1) listed a w:=by
 refine zOr hr ho hw ?_;unfold Oper.wp;rw[hrun];simp only[Oper.upon,hd];exact⟨fun e=>absurd rfl e,zN7 hend h _⟩
end
end
section
open Go.RowKit Go.Shelf Go.Lib Go.Sort Pm
shelf_lay_g Lays8.n4 Nm8 4 at Tryz 164 as growPr
theorem zMy(n:Nat)(hn:n<2199023255552)(w:World):Calls Tryz.prog 164 #[.slice none 0 0,.int .i64 n] w fun e w'=>∃v,e = .returned v∧POwn w.heap.size w' v []∧Below w.heap.size w w':=by
 obtain⟨i0,hi,hz0,hz1,hz2⟩:=info_parts zQ6;rcases Nat.eq_zero_or_pos n with rfl|h0
 · refine(Any8.slices_Grow_room growPr none 0 0 0 w (Nat.le_refl _) (by omega) (by omega) (by omega)).mono ?_
   rintro e w' ⟨rfl,rfl⟩;exact⟨_,rfl,POwn.nil _ _,Below.refl _ _⟩
 · refine(Any8.slices_Grow_grow growPr i0 _ hi hz0 (by rw[hz1];decide) none 0 0 n [] w (Nat.le_refl _) (by omega) (by rw[hz2];omega) (by omega) (by simp) (fun _=>rfl) (fun a h=>by cases h)).mono ?_
   rintro e w' ⟨rfl,rfl⟩;refine⟨_,rfl,⟨rfl,.inr ⟨_,_,_,rfl,Nat.le_refl _,zAb _ _,Nat.zero_le _,?_,?_,rfl⟩⟩,((Below.refl _ w).drew).alloc (Nat.le_refl _) _⟩
   · exact grownCap_le_maxLen w (0+n) 0 _ (by unfold maxLen;omega)
   · have hge:n≤grownCap w n 0 (growPr_ren.t 25):=grownCap_ge w n 0 _
     simp[Builtin.zeroCells,Value.cells];omega
theorem PRow.form{w:World}{v:Value}{l:List Pr}(h:PRow w v l):∃ad cap,v = .slice ad l.length cap:=by
 obtain⟨ad,cap,rfl,_⟩:=h;exact⟨ad,cap,rfl⟩
set_option maxHeartbeats 4000000 in
theorem zPu(w:World)(vb c:Nat)(s1:Value)(xs:List Pr)(h1:PRow w s1 xs)(hx:xs.length<549755813888)(hvb:vb<w.heap.size)(c0:w.cell? ⟨vb,0,none⟩=some s1):
 Calls Tryz.prog 134 #[.slice (some ⟨vb,0,none⟩) 1 c] w fun e w'=>∃v,e = .returned v∧POwn w.heap.size w' v xs∧Below w.heap.size w w':=by
 obtain⟨a1,cp1,rfl⟩:=h1.form;have H1:Hid (PRow w (.slice a1 xs.length cp1) xs):=h1;obtain⟨n1,hn1⟩:∃n1,xs.length=n1:=⟨_,rfl⟩;have HN1:Hid (xs.length=n1):=hn1;have hp1:¬((n1:Int)<0):=by omega
 have hn1b:n1<2199023255552:=by omega
 rw[hn1]at c0 H1;clear h1 hn1;go_enter Tryz.func134,Tryz.ntmps134;go_wp2;refine wp_loop_rounds 2 ?_;rw[rounds_succ];go_wp2;rw[rounds_succ];go_wp2_with (go_at_call 164;refine(zMy n1 hn1b _).mono ?_;rintro e w1 ⟨v,rfl,hr1,hB1⟩);have HR1:Hid (POwn w.heap.size w1 v []):=hr1;have HB1:Hid (Below w.heap.size w w1):=hB1;have d0:=(hB1.cell (p:=⟨vb,0,none⟩) hvb).trans c0;clear hr1 hB1;refine wp_loop_rounds 2 ?_;rw[rounds_succ];go_wp2_with (at_builtin;refine zF7 (by rfl) _ _ rfl w.heap.size _ _ [] xs rfl HR1.out rfl (H1.out.below HB1.out) (by have:=HN1.out;simp;omega) HB1.out.size ?_);intro v2 w2 hr2 hb2 _;have HR2:Hid (POwn w.heap.size w2 v2 xs):=hr2;have HB2:Hid (Below w.heap.size w w2):=HB1.out.trans hb2;clear hr2 hb2 d0;go_wp2_with fail;rw[rounds_succ];go_wp2_with fail;go_ret;exact⟨v2,rfl,HR2.out,HB2.out⟩
set_option maxHeartbeats 4000000 in
theorem zPt(w:World)(vb c:Nat)(s1 s2:Value)(xs ys:List Pr)(h1:PRow w s1 xs)(h2:PRow w s2 ys)(hx:xs.length<549755813888)(hy:ys.length<549755813888)(hvb:vb<w.heap.size)
 (c0:w.cell? ⟨vb,0,none⟩=some s1) (c1:w.cell? ⟨vb,1,none⟩=some s2):
 Calls Tryz.prog 134 #[.slice (some ⟨vb,0,none⟩) 2 c] w fun e w'=>∃v,e = .returned v∧POwn w.heap.size w' v (xs++ys)∧Below w.heap.size w w':=by
 obtain⟨a1,cp1,rfl⟩:=h1.form;obtain⟨a2,cp2,rfl⟩:=h2.form;have H1:Hid (PRow w (.slice a1 xs.length cp1) xs):=h1;have H2:Hid (PRow w (.slice a2 ys.length cp2) ys):=h2;obtain⟨n1,hn1⟩:∃n1,xs.length=n1:=⟨_,rfl⟩;obtain⟨n2,hn2⟩:∃n2,ys.length=n2:=⟨_,rfl⟩;obtain⟨n3,hn3⟩:∃n3,n1+n2=n3:=⟨_,rfl⟩;have HN1:Hid (xs.length=n1):=hn1;have HN2:Hid (ys.length=n2):=hn2;have hsum:(n1:Int)+(n2:Int)=(n3:Int):=by omega
 have hp1:¬((n1:Int)<0):=by omega
 have hp3:¬((n3:Int)<0):=by omega
 have hn3b:n3<2199023255552:=by omega
 rw[hn1]at c0 H1;rw[hn2]at c1 H2;clear h1 h2 hn1 hn2;go_enter Tryz.func134,Tryz.ntmps134;go_wp2;refine wp_loop_rounds 3 ?_;rw[rounds_succ];go_wp2;rw[rounds_succ];go_wp2;rw[rounds_succ];go_wp2_with (go_at_call 164;refine(zMy n3 hn3b _).mono ?_;rintro e w1 ⟨v,rfl,hr1,hB1⟩);have HR1:Hid (POwn w.heap.size w1 v []):=hr1;have HB1:Hid (Below w.heap.size w w1):=hB1;have d0:=(hB1.cell (p:=⟨vb,0,none⟩) hvb).trans c0;clear hr1 hB1;refine wp_loop_rounds 3 ?_;rw[rounds_succ];go_wp2_with (at_builtin;refine zF7 (by rfl) _ _ rfl w.heap.size _ _ [] xs rfl HR1.out rfl (H1.out.below HB1.out) (by have:=HN1.out;simp;omega) HB1.out.size ?_);intro v2 w2 hr2 hb2 _;have HR2:Hid (POwn w.heap.size w2 v2 xs):=hr2;have HB2:Hid (Below w.heap.size w w2):=HB1.out.trans hb2;have d1:=(HB2.out.cell (p:=⟨vb,1,none⟩) hvb).trans c1;clear hr2 hb2 d0;go_wp2_with fail;rw[rounds_succ];go_wp2_with (at_builtin;refine zF7 (by rfl) _ _ rfl w.heap.size _ _ xs ys rfl HR2.out rfl (H2.out.below HB2.out) (by have:=HN1.out;have:=HN2.out;omega) HB2.out.size ?_);intro v3 w3 hr3 hb3 _;have HR3:Hid (POwn w.heap.size w3 v3 (xs++ys)):=hr3;have HB3:Hid (Below w.heap.size w w3):=HB2.out.trans hb3;clear hr3 hb3 d1;go_wp2_with fail;rw[rounds_succ];go_wp2_with fail;go_ret;exact⟨v3,rfl,HR3.out,HB3.out⟩
end
section
open Go.RowKit Go.Shelf Go.Lib Go.Sort Pm
theorem zSr{x y:Pr}(r:List Pr)(h:y.1=x.1):zB9 (x::y::r)=zB9 (y::r):=by rw[zB9,if_pos h]
theorem zV4{x y:Pr}(r:List Pr)(h:¬y.1=x.1):zB9 (x::y::r)=x::zB9 (y::r):=by rw[zB9,if_neg h]
theorem drop_at(l:List Pr)(k:Nat)(x:Pr)(h:l[k]?=some x):l.drop k=x::l.drop (k+1):=by
 obtain⟨hk,e⟩:=List.getElem?_eq_some_iff.1 h;rw[List.drop_eq_getElem_cons hk,e]
set_option maxHeartbeats 4000000 in
theorem zI2(w:World)(v:Value)(l:List Pr)(h:PRow w v l)(hl:l.length<549755813888):
 Calls Tryz.prog 137 #[v] w fun e w'=>∃v',e = .returned v'∧POwn w.heap.size w' v' (zB9 l)∧Below w.heap.size w w':=by
 obtain⟨ad,cap,rfl⟩:∃ad cap,v = .slice ad l.length cap:=by obtain⟨ad,cap,rfl,_⟩:=h;exact⟨ad,cap,rfl⟩
 have HR:Hid (PRow w (.slice ad l.length cap) l):=h;obtain⟨n,hn⟩:∃n,l.length=n:=⟨_,rfl⟩;have HN:Hid (l.length=n):=hn;rw[hn]at HR hl;clear h;rw[hn];clear hn;go_enter Tryz.func137,Tryz.ntmps137;go_wp2
 go_loopg [3,4,5,8] n (fun g s3 _ _ s8 wr=>∃(k:Nat) (acc:List Pr),s8 = .int .i64 k∧k≤n∧n-k≤g∧Hid (POwn w.heap.size wr s3 acc)∧Hid (Below w.heap.size w wr)∧Hid (acc.length≤k)∧Hid (acc++zB9 (l.drop k)=zB9 l))
 case atStart=>exact⟨0,[],rfl,Nat.zero_le _,by omega,POwn.nil _ _,Below.refl _ _,Nat.le_refl _,by show _=_;simp⟩
 case round=>
  obtain⟨k,acc,rfl,hk,hg,HO,HB,HACC,HE⟩:=hrel;by_cases hlt:k<n
  · have hltz:(k:Int)<(n:Int):=by omega
    obtain⟨x,hx⟩:∃x,l[k]?=some x:=⟨l[k]'(by have:=HN.out;omega),List.getElem?_eq_getElem _⟩;obtain⟨b,off,rfl,hb,hcell⟩:=(HR.out.below HB.out).at (by omega);obtain⟨c0,c1⟩:=hcell k x hx;have HX:Hid (l[k]?=some x):=hx;have HD:Hid (l.drop k=x::l.drop (k+1)):=drop_at l k x hx;(have rk1:IntKind.i64.wrap ((k:Int)+1)=(k:Int)+1:=by rw[IntKind.wrap_i64];omega);by_cases hend:k+1=n
    · have hendz:((k:Int)+1==(n:Int))=true:=beq_iff_eq.2 (by omega)
      have HE2:Hid (acc++[x]++zB9 (l.drop (k+1))=zB9 l):=by
       show _=_;rw[←HE.out,HD.out,List.drop_eq_nil_of_le (by have:=HN.out;omega)];simp[zB9]
      clear hcell hx;go_wp2_with fail;go_quiet (fail);(have hWn:∀o:Obj,((wr.alloc o).drewN nq).heap.size=wr.heap.size+1:=fun o=>by simp);(have HWo:Hid (∀o:Obj,POwn w.heap.size ((wr.alloc o).drewN nq) u3 acc∧Below w.heap.size w ((wr.alloc o).drewN nq)):=fun o=>⟨HO.out.below (belowN ((Below.refl _ wr).alloc (Nat.le_refl _) _) nq),belowN (HB.out.alloc (by have:=HB.out.size;omega) _) nq⟩);go_wp2_with (at_builtin;refine zCy (by rfl) _ _ x _ rfl w.heap.size _ _ _ acc rfl (HWo.out _).1 rfl (hWn _).symm (by have:=HACC.out;omega) (HWo.out _).2.size ?_);intro v2 w2 hr2 hb2;have HR2:Hid (POwn w.heap.size w2 v2 (acc++[x])):=hr2;have HB2:Hid (Below w.heap.size w w2):=(HWo.out _).2.trans hb2;clear hr2 hb2;go_wp2_with fail;go_roundg (n-(k+1));(case measure=>omega);case rel=>exact⟨k+1,acc++[x],by go_num,by omega,Nat.le_refl _,HR2,HB2,by have:=HACC.out;show _≤_;simp;omega,HE2⟩
    · have hendz:((k:Int)+1==(n:Int))=false:=beq_eq_false_iff_ne.2 (by omega)
      obtain⟨y,hy⟩:∃y,l[k+1]?=some y:=⟨l[k+1]'(by have:=HN.out;omega),List.getElem?_eq_getElem _⟩;have HD2:Hid (l.drop (k+1)=y::l.drop (k+1+1)):=drop_at l (k+1) y hy;obtain⟨d0,d1⟩:=hcell (k+1) y hy;(have p1:(0:Int)≤(k:Int)+1:=by omega);(have b1:(k:Int)+1<(n:Int):=by omega);(have e1:((k:Int)+1).toNat=k+1:=by omega);clear hcell hx hy;by_cases hyx:y.1=x.1
      · have hs:(y.1.toList==x.1.toList)=true:=by rw[zD0];exact decide_eq_true hyx
        have HE2:Hid (acc++zB9 (l.drop (k+1))=zB9 l):=by
         show _=_;rw[←HE.out,HD.out,HD2.out,zSr _ hyx]
        clear hyx;go_wp2_with fail;go_quiet (fail);go_wp2_with fail;go_roundg (n-(k+1));(case measure=>omega);case rel=>exact⟨k+1,acc,by go_num,by omega,Nat.le_refl _,HO.out.below (belowN ((Below.refl _ wr).alloc (Nat.le_refl _) _) _),belowN (HB.out.alloc (by have:=HB.out.size;omega) _) _,by have:=HACC.out;show _≤_;omega,HE2⟩
      · have hs:(y.1.toList==x.1.toList)=false:=by rw[zD0];exact decide_eq_false hyx
        have HE2:Hid (acc++[x]++zB9 (l.drop (k+1))=zB9 l):=by
         show _=_;rw[←HE.out,HD.out,HD2.out,zV4 _ hyx];simp
        clear hyx;go_wp2_with fail;go_quiet (fail);(have hWn:∀o:Obj,((wr.alloc o).drewN nq).heap.size=wr.heap.size+1:=fun o=>by simp);(have HWo:Hid (∀o:Obj,POwn w.heap.size ((wr.alloc o).drewN nq) u3 acc∧Below w.heap.size w ((wr.alloc o).drewN nq)):=fun o=>⟨HO.out.below (belowN ((Below.refl _ wr).alloc (Nat.le_refl _) _) nq),belowN (HB.out.alloc (by have:=HB.out.size;omega) _) nq⟩);go_wp2_with (at_builtin;refine zCy (by rfl) _ _ x _ rfl w.heap.size _ _ _ acc rfl (HWo.out _).1 rfl (hWn _).symm (by have:=HACC.out;omega) (HWo.out _).2.size ?_);intro v2 w2 hr2 hb2;have HR2:Hid (POwn w.heap.size w2 v2 (acc++[x])):=hr2;have HB2:Hid (Below w.heap.size w w2):=(HWo.out _).2.trans hb2;clear hr2 hb2;go_wp2_with fail;go_roundg (n-(k+1));(case measure=>omega);case rel=>exact⟨k+1,acc++[x],by go_num,by omega,Nat.le_refl _,HR2,HB2,by have:=HACC.out;show _≤_;simp;omega,HE2⟩
  · have hltz:¬(k:Int)<(n:Int):=by omega
    have HE2:Hid (acc=zB9 l):=by
     show _=_;rw[←HE.out,List.drop_eq_nil_of_le (by have:=HN.out;omega)];simp[zB9]
    go_wp2_with fail;go_ret;exact⟨_,rfl,HE2.out▸HO.out,HB.out⟩
end
section
open Go.RowKit Go.Shelf Go.Lib Go.Sort Pm
set_option maxHeartbeats 1000000 in
theorem zLd(w:World):Calls Tryz.prog 180 #[.slice none 0 0,.int .i64 0,.int .i64 0,.func (.func 136) #[] #[]] w fun e w'=>e = .returned (.tuple #[])∧w'=w:=by
 go_enter Tryz.func180,Tryz.ntmps180;go_wp2;refine wp_loop_rounds 1 ?_;rw[rounds_succ];go_wp2
 go_end0
 exact⟨rfl,rfl⟩
set_option maxHeartbeats 1000000 in
theorem zR5(w:World):Calls Tryz.prog 165 #[.slice none 0 0,.int .i64 0,.func (.func 136) #[] #[]] w fun e w'=>e = .returned (.tuple #[])∧w'=w:=by
 go_enter Tryz.func165,Tryz.ntmps165;go_wp2;refine wp_loop_rounds 1 ?_;rw[rounds_succ];go_wp2_with (go_at_call 180;refine(zLd _).mono ?_;rintro e w2 ⟨rfl,rfl⟩);refine wp_loop_rounds 1 ?_;rw[rounds_succ];go_wp2
 go_end0
 exact⟨rfl,rfl⟩
set_option maxHeartbeats 1000000 in
theorem zIy(w:World):Calls Tryz.prog 135 #[.slice none 0 0,.func (.func 136) #[] #[]] w fun e w'=>e = .returned (.tuple #[])∧w'=w:=by
 go_enter Tryz.func135,Tryz.ntmps135;go_wp2_with (go_at_call 165;refine(zR5 _).mono ?_;rintro e w2 ⟨rfl,rfl⟩)
 go_end0
 exact⟨rfl,rfl⟩
theorem sort_own{B:Nat}{w:World}{v:Value}{l:List Pr}(h:POwn B w v l)(hl:l.length<1125899906842624)(hB:B≤w.heap.size):
 Calls Tryz.prog 135 #[v,.func (.func 136) #[] #[]] w fun e w'=>e = .returned (.tuple #[])∧∃l',Stably zAa l l'∧POwn B w' v l'∧Below B w w':=by
 have h':=h;obtain⟨_,⟨e,h0⟩|⟨g,cap,cur,rfl,h1,hh,h3,h4,h5,h6⟩⟩:=h
 · have hl0:l=[]:=List.eq_nil_of_length_eq_zero h0
   subst hl0;subst e;refine(zIy w).mono ?_;rintro e w' ⟨rfl,rfl⟩;exact⟨rfl,[],⟨List.Pairwise.nil,fun _=>rfl⟩,h',Below.refl _ _⟩
 · obtain⟨R,S,hBg⟩:=RowP.of_own h' hl
   refine(sortStable_any g 0 l.length cap w w R hl l S rfl).mono ?_;rintro e w' ⟨rfl,l',hs,hS⟩;have hlen:=hs.len;have ho:=h'.sorted hl hS hlen;rw[hlen]at ho;exact⟨rfl,l',hs,ho,SWK.below hS hBg hB⟩
set_option maxHeartbeats 1000000 in
theorem inOrder_any(w:World)(vb n c:Nat)(l:List Pr)(hl:l.length<549755813888)
 (hc:Calls Tryz.prog 134 #[.slice (some ⟨vb,0,none⟩) n c] w fun e w'=>∃v,e = .returned v∧POwn w.heap.size w' v l∧Below w.heap.size w w'):
 Calls Tryz.prog 96 #[.slice (some ⟨vb,0,none⟩) n c] w fun e w'=>∃v,e = .returned v∧POwn w.heap.size w' v (norm zAa l)∧Below w.heap.size w w':=by
 go_enter Tryz.func96,Tryz.ntmps96;go_wp2_with (go_at_call 134;refine hc.mono ?_;rintro e w1 ⟨v1,rfl,ho1,hb1⟩);have H1:Hid (POwn w.heap.size w1 v1 l∧Below w.heap.size w w1):=⟨ho1,hb1⟩;clear hc ho1 hb1;go_wp2_with (go_at_call 135;refine(sort_own H1.out.1 (by omega) H1.out.2.size).mono ?_;rintro e w2 ⟨rfl,l',hs,ho2,hb2⟩);have H2:Hid (Stably zAa l l'∧POwn w.heap.size w2 v1 l'∧Below w.heap.size w w2):=⟨hs,ho2,H1.out.2.trans hb2⟩;clear hs ho2 hb2;go_wp2_with (go_at_call 137;refine(zI2 w2 v1 l' H2.out.2.1.row (by have:=H2.out.1.len;omega)).mono ?_;rintro e w3 ⟨v3,rfl,ho3,hb3⟩);go_ret;have e1:=zI1 lessB_sto H2.out.1;rw[e1]at ho3;exact⟨v3,rfl,ho3.mono H2.out.2.2.size,H2.out.2.2.trans (hb3.mono H2.out.2.2.size)⟩
set_option maxHeartbeats 1000000 in
theorem zRs(w:World)(v:Value)(l:List Pr)(h:PRow w v l)(hl:l.length<549755813888):
 Calls Tryz.prog 77 #[v] w fun e w'=>∃v',e = .returned v'∧POwn w.heap.size w' v' (norm zAa l)∧Below w.heap.size w w':=by
 obtain⟨ad,cap,rfl⟩:=h.form;have hc:=fun o=>(⟨h.below ((Below.refl _ w).alloc (Nat.le_refl _) o),(Below.refl _ w).alloc (Nat.le_refl _) o⟩:PRow (w.alloc o) (.slice ad l.length cap) l∧Below w.heap.size w (w.alloc o))
 have HC:Hid _:=hc;clear hc h;go_enter Tryz.func77,Tryz.ntmps77;go_wp2_with (go_at_call 96;refine(inOrder_any _ _ _ _ l hl (zPu _ _ _ _ l (HC.out _).1 hl (by simp) (by simp))).mono ?_;rintro e w1 ⟨v1,rfl,ho1,hb1⟩);go_ret;exact⟨v1,rfl,ho1.mono (HC.out _).2.size,(HC.out _).2.trans (hb1.mono (HC.out _).2.size)⟩
end
section
open Go.RowKit Go.Shelf Go.Lib Go.Sort Pm
theorem zDm{g:Nat}{T:TypeId}{f:Nat×Nat}:∀(vs:List Value) (o:Nat) (w:World) (cur:Array Value),w.heap[g]?=some (.cells cur T f)→∃cur',cur'.size=cur.size∧(w.setCells g o vs).heap[g]?=some (.cells cur' T f)
 |[],_,_,cur,h=>⟨cur,rfl,h⟩
 |v::r,o,w,cur,h=>by
  have h2:(w.setCell ⟨g,o,none⟩ v).heap[g]?=some (.cells (cur.setIfInBounds o v) T f):=by simp[World.setCell,Array.getElem?_modify,h]
  obtain⟨cur',h3,h4⟩:=zDm r (o+1) _ _ h2;exact⟨cur',by rw[h3];simp,h4⟩
theorem zC0{g B:Nat}(hB:B≤g):∀(vs:List Value) (o:Nat) (a w:World),Below B a w→Below B a (w.setCells g o vs)
 |[],_,_,_,h=>h
 |v::r,o,a,_,h=>zC0 hB r (o+1) a _ (h.setCell (p:=⟨g,o,none⟩) hB v)
theorem POwn.block{B:Nat}{w:World}{g cap n:Nat}{l:List Pr}(h:POwn B w (.slice (some ⟨g,0,none⟩) n cap) l):∃cur,B≤g∧w.heap[g]?=some (.cells cur 64 (0,0))∧n=l.length∧n≤cap∧cap≤maxLen∧cur.size=cap*2∧(∀i x,l[i]?=some x→TwoAt w g (i*2) x)∧∀o,w.frozen? ⟨g,o,none⟩=false:=by
 obtain⟨_,⟨e,_⟩|⟨g',cap',cur,e,h1,hh,h3,h4,h5,h6⟩⟩:=h
 · cases e
 · simp only[Value.slice.injEq,Option.some.injEq,Addr.mk.injEq]at e
   obtain⟨⟨rfl,_⟩,rfl,rfl⟩:=e;exact⟨cur,h1,hh,rfl,h3,h4,h5,fun i x hi=>by have:=POwn.cells hh h6 i x hi;rwa [Nat.zero_add]at this,fun o=>by simp[World.frozen?,hh]⟩
theorem POwn.set{B:Nat}{w:World}{g cap n:Nat}{l:List Pr}(h:POwn B w (.slice (some ⟨g,0,none⟩) n cap) l)(i:Nat)(x:Pr):POwn B (w.setCells g (i*2) (encP x)) (.slice (some ⟨g,0,none⟩) n cap) (l.set i x):=by
 obtain⟨cur,h1,hh,rfl,h3,h4,h5,hc,hf⟩:=h.block;obtain⟨cur',k1,k2⟩:=zDm (encP x) (i*2) w cur hh;have:=POwn.of_cells (B:=B) (cap:=cap) (l:=l.set i x) h1 k2 (by simpa using h3) h4 (by omega) fun j y hj=>by
  by_cases e:j=i
  · subst e
    (have hjl:j<l.length:=by have:=(List.getElem?_eq_some_iff.1 hj).1;simpa using this);rw[List.getElem?_set_self hjl]at hj;simp only[Option.some.injEq]at hj;subst hj;have t:=hc j l[j] (List.getElem?_eq_getElem hjl);have a0:((w.setCell ⟨g,j*2,none⟩ (.string x.1)).cell? ⟨g,j*2,none⟩)=some (.string x.1):=World.cell?_setCell_same' _ _ _ (by rw[t.c0];rfl);refine⟨?_,?_⟩
    · show((w.setCell ⟨g,j*2,none⟩ (.string x.1)).setCell ⟨g,j*2+1,none⟩ (.int .i64 x.2)).cell? ⟨g,j*2,none⟩=_
      have:=World.cell?_setCells_out g [.int .i64 x.2] (j*2+1) (w.setCell ⟨g,j*2,none⟩ (.string x.1)) ⟨g,j*2,none⟩ (fun _ _=>by simp);exact this.trans a0
    · show((w.setCell ⟨g,j*2,none⟩ (.string x.1)).setCell ⟨g,j*2+1,none⟩ (.int .i64 x.2)).cell? ⟨g,j*2+1,none⟩=_
      refine World.cell?_setCell_same' _ _ _ ?_;have:(w.setCell ⟨g,j*2,none⟩ (.string x.1)).cell? ⟨g,j*2+1,none⟩=w.cell? ⟨g,j*2+1,none⟩:=World.cell?_setCells_out g [.string x.1] (j*2) w ⟨g,j*2+1,none⟩ (fun _ _=>by simp);rw[this,t.c1];rfl
  · rw[List.getElem?_set_ne (fun e2=>e e2.symm)]at hj
    have t:=hc j y hj;refine⟨?_,?_⟩
    · rw[World.cell?_setCells_out g _ _ _ _ (fun _ _=>by rw[encP_k];show j*2<i*2∨i*2+2≤j*2;omega)];exact t.c0
    · rw[World.cell?_setCells_out g _ _ _ _ (fun _ _=>by rw[encP_k];show j*2+1<i*2∨i*2+2≤j*2+1;omega)];exact t.c1
 simpa using this
theorem POwn.cut{B:Nat}{w:World}{g cap n:Nat}{l:List Pr}(h:POwn B w (.slice (some ⟨g,0,none⟩) n cap) l)(j:Nat)(hj:j≤n)(vs:List Value):POwn B (w.setCells g (j*2) vs) (.slice (some ⟨g,0,none⟩) j cap) (l.take j):=by
 obtain⟨cur,h1,hh,rfl,h3,h4,h5,hc,hf⟩:=h.block;obtain⟨cur',k1,k2⟩:=zDm vs (j*2) w cur hh;have hl:(l.take j).length=j:=by simp;omega
 have:=POwn.of_cells (B:=B) (cap:=cap) (l:=l.take j) h1 k2 (by omega) h4 (by omega) fun i y hi=>by
  have hil:=(List.getElem?_eq_some_iff.1 hi).1;rw[hl]at hil;rw[List.getElem?_take,if_pos hil]at hi;have t:=hc i y hi;refine⟨?_,?_⟩
  · rw[World.cell?_setCells_out g _ _ _ _ (fun _ _=>by show i*2<_∨_;omega)];exact t.c0
  · rw[World.cell?_setCells_out g _ _ _ _ (fun _ _=>by show i*2+1<_∨_;omega)];exact t.c1
 rw[hl]at this;exact this
theorem zXn{B:Nat}{w:World}{g cap n:Nat}{l:List Pr}(h:POwn B w (.slice (some ⟨g,0,none⟩) n cap) l)(j m c:Nat)(hj:j+m=n)(ty:TypeId):
 ∃vs,(Builtin.clear_ #[22] ty #[.slice (some ⟨g,j*2,none⟩) m c]).run Tryz.prog w = .ok (.tuple #[]) (w.setCells g (j*2) vs):=by
 obtain⟨cur,h1,hh,rfl,h3,h4,h5,hc,hf⟩:=h.block;cases m with
 |zero=>exact⟨[],by simp[Builtin.clear_,run_underlying Tryz.underlying22];rfl⟩
 |succ m=>
  have hz:∀w,(zeroValue 64).run Tryz.prog w = .ok (.agg #[.string ByteArray.empty,.int .i64 0]) w:=Tryz.zeroValue64
  let vs:=(Builtin.zeroCells (Value.agg #[.string ByteArray.empty,.int .i64 0]).cells (m+1)).toList
  have hlen:vs.length=(m+1)*2:=by simp[vs,Builtin.zeroCells,Value.cells]
  have hone:∀v∈vs,v.oneCell'=true:=by
   intro v hv;simp only[vs,Builtin.zeroCells,Value.cells,Array.toList_map,List.mem_map]at hv;obtain⟨i,_,rfl⟩:=hv;(have:i%2=0∨i%2=1:=by omega);rcases this with e|e
   · show(Array.getD _ _ _:Value).oneCell'=true
     simp[e];rfl
   · show(Array.getD _ _ _:Value).oneCell'=true
     simp[e];rfl
  have hst:=run_storeCells_cells (P:=Tryz.prog) g (j*2) vs 0 w (fun t ht=>by
   (have hsz:j*2+0+t<cur.size:=by omega);simp[World.cell?,hh];omega) (fun t _=>hf _) hone
  refine⟨vs,?_⟩;simp only[Nat.add_zero]at hst;simp[Builtin.clear_,run_underlying Tryz.underlying22,hz];rw[show(Builtin.zeroCells (Value.agg #[.string ByteArray.empty,.int .i64 0]).cells (m+1)).toList=vs from rfl];simp[hst]
end
