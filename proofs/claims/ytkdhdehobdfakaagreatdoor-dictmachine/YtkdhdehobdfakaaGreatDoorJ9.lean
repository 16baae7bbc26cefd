import Derived.Test.YtkdhdehobdfakaaGreatDoorJ7
set_option maxRecDepth 100000
set_option maxHeartbeats 8000000
namespace Go.Proofs.YtkdhdehobdfakaaGreatDoor
section
open Go.RowKit
variable {P:Program} {md:Region.Mode} {ops:Array Oper} {Q:Exit→Act→World→Prop} {S:World→Prop}
theorem zAh{id:Nat}{a:Act}{w:World}(k:Nat)(hk:ops.size=k)(hm:P.follows .mixedOrders=true)(hS:S w.drew)(h:S w.drew→wpAnyH P .any ops Q S k (Array.replicate k false) a w.drew):(Code.region id ops true).wp P Q a w:=by
 subst hk;exact wp_region_held_drew hm hS h
theorem zCn{i:Nat}{oi:Oper}{v:Value}{fuel:Nat}{listed:Array Bool}{tmps:Array Value}{df:List Deferred}{w:World}(t:Tmp)(hi:ops[i]?=some oi)(hd:oi.dst=some t)
 (hs:Region.noSelect ops=true) (hf:Region.free md ops listed i=true) (hr:(Region.ready md ops listed).contains i=true)
 (hQ:∀c a w,Q (.panic c) (a.put oi.dst v) w→Q (.panic c) a w) (hw:Region.wanted oi (yielded ops tmps)=true) (hy:∀w,S w→(execOp (Act.eval { tmps:=tmps,defers:=df }) oi).run P w = .ok (.value v) w) (hS:S w)
 (h:wpAnyH P md ops Q S fuel (listed.setIfInBounds i true) { tmps:=tmps.setIfInBounds t v,defers:=df } w):wpAnyH P md ops Q S (fuel+1) listed { tmps:=tmps,defers:=df } w:=by
 refine wpAnyH_take hi hs hf hr hQ (.inl ⟨hw,hy⟩) hS ?_;rw[hd];exact h
theorem sZa{α:Type}(l:List α)(i:Nat)(a:α):l.toArray.setIfInBounds i a=(l.set i a).toArray:=List.setIfInBounds_toArray ..
theorem sZb{α:Type}(x:α)(l:List α)(a:α):(x::l).set 0 a=a::l:=rfl
theorem sZc{α:Type}(x:α)(l:List α)(i:Nat)(a:α):(x::l).set (i+1) a=x::l.set i a:=rfl
theorem tk{i:Nat}{oi:Oper}{v:Value}{fuel:Nat}{listed:Array Bool}{tmps:Array Value}{df:List Deferred}{w:World}(t:Tmp)(hi:ops[i]?=some oi)(hd:oi.dst=some t)
 (hk:(Region.noSelect ops&&Region.free md ops listed i&&(Region.ready md ops listed).contains i)=true)
 (hy:∀w,S w→(execOp (Act.eval { tmps:=tmps,defers:=df }) oi).run P w = .ok (.value v) w)
 (h:wpAnyH P md ops Q S fuel (listed.setIfInBounds i true) { tmps:=tmps.setIfInBounds t v,defers:=df } w) (hQ:∀c a w,Q (.panic c) (a.put oi.dst v) w→Q (.panic c) a w:=by exact fun _ _ _ h=>h) (hw:Region.wanted oi (yielded ops tmps)=true:=by rfl) (hS:S w:=by assumption):wpAnyH P md ops Q S (fuel+1) listed { tmps:=tmps,defers:=df } w:=by
 simp only[Bool.and_eq_true]at hk;exact zCn t hi hd hk.1.1 hk.1.2 hk.2 hQ hw hy hS h
theorem tq{Fx:World→Prop}(F:∀{w},S w→Fx w)(i0:Nat)(t0:Tmp){o0:Oper}{v0:Value}{fuel:Nat}{listed:Array Bool}{tmps:Array Value}{df:List Deferred}{w:World}(h:wpAnyH P md ops Q S fuel (listed.setIfInBounds i0 true) { tmps:=(tmps.setIfInBounds t0 v0),defers:=df } w)(hi0:ops[i0]?=some o0:=by rfl)(hd0:o0.dst=some t0:=by rfl)(hk0:(Region.noSelect ops&&Region.free md ops listed i0&&(Region.ready md ops listed).contains i0)=true:=by kernel_rfl)(hy0:∀w,Fx w→(execOp (Act.eval { tmps:=tmps,defers:=df }) o0).run P w = .ok (.value v0) w:=by(intro _ h;go_simp;first|done|exact rfl))(hQ0:∀c a w,Q (.panic c) (a.put o0.dst v0) w→Q (.panic c) a w:=by exact fun _ _ _ h=>h)(hw0:Region.wanted o0 (yielded ops tmps)=true:=by rfl)(hS:S w:=by assumption):wpAnyH P md ops Q S (fuel+1) listed { tmps:=tmps,defers:=df } w:=by
 exact tk t0 hi0 hd0 hk0 (fun w s=>hy0 w (F s)) h hQ0 hw0 hS
theorem tq2{Fx:World→Prop}(F:∀{w},S w→Fx w)(i0:Nat)(t0:Tmp)(i1:Nat)(t1:Tmp){o0:Oper}{v0:Value}{o1:Oper}{v1:Value}{fuel:Nat}{listed:Array Bool}{tmps:Array Value}{df:List Deferred}{w:World}(h:wpAnyH P md ops Q S fuel ((listed.setIfInBounds i0 true).setIfInBounds i1 true) { tmps:=((tmps.setIfInBounds t0 v0).setIfInBounds t1 v1),defers:=df } w)(hi0:ops[i0]?=some o0:=by rfl)(hd0:o0.dst=some t0:=by rfl)(hk0:(Region.noSelect ops&&Region.free md ops listed i0&&(Region.ready md ops listed).contains i0)=true:=by kernel_rfl)(hy0:∀w,Fx w→(execOp (Act.eval { tmps:=tmps,defers:=df }) o0).run P w = .ok (.value v0) w:=by(intro _ h;go_simp;first|done|exact rfl))(hQ0:∀c a w,Q (.panic c) (a.put o0.dst v0) w→Q (.panic c) a w:=by exact fun _ _ _ h=>h)(hw0:Region.wanted o0 (yielded ops tmps)=true:=by rfl)(hi1:ops[i1]?=some o1:=by rfl)(hd1:o1.dst=some t1:=by rfl)(hk1:(Region.noSelect ops&&Region.free md ops (listed.setIfInBounds i0 true) i1&&(Region.ready md ops (listed.setIfInBounds i0 true)).contains i1)=true:=by kernel_rfl)(hy1:∀w,Fx w→(execOp (Act.eval { tmps:=(tmps.setIfInBounds t0 v0),defers:=df }) o1).run P w = .ok (.value v1) w:=by(intro _ h;simp only[sZa,sZb,sZc];go_simp;first|done|exact rfl))(hQ1:∀c a w,Q (.panic c) (a.put o1.dst v1) w→Q (.panic c) a w:=by exact fun _ _ _ h=>h)(hw1:Region.wanted o1 (yielded ops (tmps.setIfInBounds t0 v0))=true:=by rfl)(hS:S w:=by assumption):wpAnyH P md ops Q S (fuel+2) listed { tmps:=tmps,defers:=df } w:=by
 exact tq F i0 t0 (tq F i1 t1 (h) hi1 hd1 hk1 hy1 hQ1 hw1 hS) hi0 hd0 hk0 hy0 hQ0 hw0 hS
theorem tq4{Fx:World→Prop}(F:∀{w},S w→Fx w)(i0:Nat)(t0:Tmp)(i1:Nat)(t1:Tmp)(i2:Nat)(t2:Tmp)(i3:Nat)(t3:Tmp){o0:Oper}{v0:Value}{o1:Oper}{v1:Value}{o2:Oper}{v2:Value}{o3:Oper}{v3:Value}{fuel:Nat}{listed:Array Bool}{tmps:Array Value}{df:List Deferred}{w:World}(h:wpAnyH P md ops Q S fuel ((((listed.setIfInBounds i0 true).setIfInBounds i1 true).setIfInBounds i2 true).setIfInBounds i3 true) { tmps:=((((tmps.setIfInBounds t0 v0).setIfInBounds t1 v1).setIfInBounds t2 v2).setIfInBounds t3 v3),defers:=df } w)(hi0:ops[i0]?=some o0:=by rfl)(hd0:o0.dst=some t0:=by rfl)(hk0:(Region.noSelect ops&&Region.free md ops listed i0&&(Region.ready md ops listed).contains i0)=true:=by kernel_rfl)(hy0:∀w,Fx w→(execOp (Act.eval { tmps:=tmps,defers:=df }) o0).run P w = .ok (.value v0) w:=by(intro _ h;go_simp;first|done|exact rfl))(hQ0:∀c a w,Q (.panic c) (a.put o0.dst v0) w→Q (.panic c) a w:=by exact fun _ _ _ h=>h)(hw0:Region.wanted o0 (yielded ops tmps)=true:=by rfl)(hi1:ops[i1]?=some o1:=by rfl)(hd1:o1.dst=some t1:=by rfl)(hk1:(Region.noSelect ops&&Region.free md ops (listed.setIfInBounds i0 true) i1&&(Region.ready md ops (listed.setIfInBounds i0 true)).contains i1)=true:=by kernel_rfl)(hy1:∀w,Fx w→(execOp (Act.eval { tmps:=(tmps.setIfInBounds t0 v0),defers:=df }) o1).run P w = .ok (.value v1) w:=by(intro _ h;simp only[sZa,sZb,sZc];go_simp;first|done|exact rfl))(hQ1:∀c a w,Q (.panic c) (a.put o1.dst v1) w→Q (.panic c) a w:=by exact fun _ _ _ h=>h)(hw1:Region.wanted o1 (yielded ops (tmps.setIfInBounds t0 v0))=true:=by rfl)(hi2:ops[i2]?=some o2:=by rfl)(hd2:o2.dst=some t2:=by rfl)(hk2:(Region.noSelect ops&&Region.free md ops ((listed.setIfInBounds i0 true).setIfInBounds i1 true) i2&&(Region.ready md ops ((listed.setIfInBounds i0 true).setIfInBounds i1 true)).contains i2)=true:=by kernel_rfl)(hy2:∀w,Fx w→(execOp (Act.eval { tmps:=((tmps.setIfInBounds t0 v0).setIfInBounds t1 v1),defers:=df }) o2).run P w = .ok (.value v2) w:=by(intro _ h;simp only[sZa,sZb,sZc];go_simp;first|done|exact rfl))(hQ2:∀c a w,Q (.panic c) (a.put o2.dst v2) w→Q (.panic c) a w:=by exact fun _ _ _ h=>h)(hw2:Region.wanted o2 (yielded ops ((tmps.setIfInBounds t0 v0).setIfInBounds t1 v1))=true:=by rfl)(hi3:ops[i3]?=some o3:=by rfl)(hd3:o3.dst=some t3:=by rfl)(hk3:(Region.noSelect ops&&Region.free md ops (((listed.setIfInBounds i0 true).setIfInBounds i1 true).setIfInBounds i2 true) i3&&(Region.ready md ops (((listed.setIfInBounds i0 true).setIfInBounds i1 true).setIfInBounds i2 true)).contains i3)=true:=by kernel_rfl)(hy3:∀w,Fx w→(execOp (Act.eval { tmps:=(((tmps.setIfInBounds t0 v0).setIfInBounds t1 v1).setIfInBounds t2 v2),defers:=df }) o3).run P w = .ok (.value v3) w:=by(intro _ h;simp only[sZa,sZb,sZc];go_simp;first|done|exact rfl))(hQ3:∀c a w,Q (.panic c) (a.put o3.dst v3) w→Q (.panic c) a w:=by exact fun _ _ _ h=>h)(hw3:Region.wanted o3 (yielded ops (((tmps.setIfInBounds t0 v0).setIfInBounds t1 v1).setIfInBounds t2 v2))=true:=by rfl)(hS:S w:=by assumption):wpAnyH P md ops Q S (fuel+4) listed { tmps:=tmps,defers:=df } w:=by
 exact tq F i0 t0 (tq F i1 t1 (tq F i2 t2 (tq F i3 t3 (h) hi3 hd3 hk3 hy3 hQ3 hw3 hS) hi2 hd2 hk2 hy2 hQ2 hw2 hS) hi1 hd1 hk1 hy1 hQ1 hw1 hS) hi0 hd0 hk0 hy0 hQ0 hw0 hS
theorem zAo{i:Nat}{o:Oper}{fuel:Nat}{listed:Array Bool}{tmps:Array Value}{df:List Deferred}{w w':World}{v:Value}(t:Tmp)(hr:Region.ready md ops listed=[i])(ho:ops[i]?=some o)(hd:o.dst=some t)(hw:Region.wanted o (yielded ops tmps)=true)
 (hrun:(execOp (Act.eval { tmps:=tmps,defers:=df }) o).run P w = .ok (.value v) w') (hS:S w') (h:S w'→wpAnyH P md ops Q S fuel (listed.setIfInBounds i true) { tmps:=tmps.setIfInBounds t v,defers:=df } w'):wpAnyH P md ops Q S (fuel+1) listed { tmps:=tmps,defers:=df } w:=by
 refine wpAnyH_ready hr (by simp) (AllReadyH.cons ho (fun K hK=>?_) AllReadyH.nil);rw[if_pos hw];unfold Oper.wp;rw[hrun,Oper.upon_value,hd];exact hK.out _ _ hS h
theorem one_at{i:Nat}{o:Oper}{fuel:Nat}{listed:Array Bool}{tmps:Array Value}{df:List Deferred}{w:World}(t:Tmp)(hr:Region.ready md ops listed=[i])(ho:ops[i]?=some o)(hd:o.dst=some t)(hw:Region.wanted o (yielded ops tmps)=true)
 (h:∀K:Act→World→Prop,(∀v w',S w'→(S w'→wpAnyH P md ops Q S fuel (listed.setIfInBounds i true) { tmps:=tmps.setIfInBounds t v,defers:=df } w')→K (Act.put { tmps:=tmps,defers:=df } o.dst v) w')→o.wp P { tmps:=tmps,defers:=df } w K Q):wpAnyH P md ops Q S (fuel+1) listed { tmps:=tmps,defers:=df } w:=by
 refine wpAnyH_ready hr (by simp) (AllReadyH.cons ho (fun K hK=>?_) AllReadyH.nil);rw[if_pos hw];refine h K fun v w' hS h=>?_
 rw[hd];exact hK.out _ _ hS h
theorem two_at{i j:Nat}{o o':Oper}{fuel:Nat}{listed:Array Bool}{tmps:Array Value}{df:List Deferred}{w:World}(t t':Tmp)(hr:Region.ready md ops listed=[i,j])(ho:ops[i]?=some o)(ho':ops[j]?=some o')(hd:o.dst=some t)(hd':o'.dst=some t')(hw:Region.wanted o (yielded ops tmps)=true)(hw':Region.wanted o' (yielded ops tmps)=true)
 (h:∀K:Act→World→Prop,(∀v w',S w'→(S w'→wpAnyH P md ops Q S fuel (listed.setIfInBounds i true) { tmps:=tmps.setIfInBounds t v,defers:=df } w')→K (Act.put { tmps:=tmps,defers:=df } o.dst v) w')→o.wp P { tmps:=tmps,defers:=df } w K Q)
 (h':∀K:Act→World→Prop,(∀v w',S w'→(S w'→wpAnyH P md ops Q S fuel (listed.setIfInBounds j true) { tmps:=tmps.setIfInBounds t' v,defers:=df } w')→K (Act.put { tmps:=tmps,defers:=df } o'.dst v) w')→o'.wp P { tmps:=tmps,defers:=df } w K Q):wpAnyH P md ops Q S (fuel+1) listed { tmps:=tmps,defers:=df } w:=by
 refine wpAnyH_ready hr (by simp) (AllReadyH.cons ho (fun K hK=>?_) (AllReadyH.cons ho' (fun K hK=>?_) AllReadyH.nil))
 · rw[if_pos hw]
   (refine h K fun v w' hS h=>?_);rw[hd];exact hK.out _ _ hS h
 · rw[if_pos hw']
   (refine h' K fun v w' hS h=>?_);rw[hd'];exact hK.out _ _ hS h
theorem zBy{i:Nat}{o:Oper}{fuel:Nat}{listed:Array Bool}{tmps:Array Value}{df:List Deferred}{w w':World}(hr:Region.ready md ops listed=[i])(ho:ops[i]?=some o)(hd:o.dst=none)(hw:Region.wanted o (yielded ops tmps)=true)
 (hrun:(execOp (Act.eval { tmps:=tmps,defers:=df }) o).run P w = .ok .skip w') (hS:S w') (h:S w'→wpAnyH P md ops Q S fuel (listed.setIfInBounds i true) { tmps:=tmps,defers:=df } w'):wpAnyH P md ops Q S (fuel+1) listed { tmps:=tmps,defers:=df } w:=by
 refine wpAnyH_ready hr (by simp) (AllReadyH.cons ho (fun K hK=>?_) AllReadyH.nil);rw[if_pos hw];unfold Oper.wp;rw[hrun,Oper.upon_skip,hd];exact hK.out _ _ hS h
theorem wp_val{o:Oper}{a:Act}{w w':World}{v:Value}{K:Act→World→Prop}(hrun:(execOp a.eval o).run P w = .ok (.value v) w')(h:K (a.put o.dst v) w'):o.wp P a w K Q:=by
 unfold Oper.wp;rw[hrun];exact h
theorem zQc{o:Oper}{a:Act}{w w0:World}{K:Act→World→Prop}(f:FuncId)(args:Array Value)(hrun:(execOp a.eval o).run P w = .ok (.enter f args) w0)(h:Calls P f args w0 fun e w'=>∃v,e = .returned v∧K (a.put o.dst v) w'):o.wp P a w K Q:=by
 unfold Oper.wp;rw[hrun,Oper.upon_enter];refine h.mono ?_;rintro e w' ⟨v,rfl,h2⟩;exact h2
theorem zFv{i:Nat}{o:Oper}{fuel:Nat}{listed:Array Bool}{tmps:Array Value}{df:List Deferred}{w w0:World}(t:Tmp)(f:FuncId)(args:Array Value)(hr:Region.ready md ops listed=[i])(ho:ops[i]?=some o)(hd:o.dst=some t)(hw:Region.wanted o (yielded ops tmps)=true)
 (hrun:(execOp (Act.eval { tmps:=tmps,defers:=df }) o).run P w = .ok (.enter f args) w0)
 (h:Calls P f args w0 fun e w'=>∃v,e = .returned v∧S w'∧(S w'→wpAnyH P md ops Q S fuel (listed.setIfInBounds i true) { tmps:=tmps.setIfInBounds t v,defers:=df } w')):wpAnyH P md ops Q S (fuel+1) listed { tmps:=tmps,defers:=df } w:=by
 refine one_at t hr ho hd hw fun K hK=>?_
 unfold Oper.wp;rw[hrun,Oper.upon_enter];refine h.mono ?_;rintro e w' ⟨v,rfl,hS,h2⟩;exact hK v w' hS h2
theorem oc(i:Nat)(w0:World)(t:Tmp)(f:FuncId)(args:Array Value){o:Oper}{fuel:Nat}{listed:Array Bool}{tmps:Array Value}{df:List Deferred}{w:World}
 (h:Calls P f args w0 fun e w'=>∃v,e = .returned v∧S w'∧(S w'→wpAnyH P md ops Q S fuel (listed.setIfInBounds i true) { tmps:=tmps.setIfInBounds t v,defers:=df } w'))
 (hr:Region.ready md ops listed=[i]:=by kernel_rfl)(ho:ops[i]?=some o:=by rfl)(hd:o.dst=some t:=by rfl)(hw:Region.wanted o (yielded ops tmps)=true:=by rfl)
 (hrun:(execOp (Act.eval { tmps:=tmps,defers:=df }) o).run P w = .ok (.enter f args) w0:=by kernel_rfl):wpAnyH P md ops Q S (fuel+1) listed { tmps:=tmps,defers:=df } w:=zFv t f args hr ho hd hw hrun h
end
section
open Go.RowKit
section
variable {P:Program} {md:Region.Mode} {ops:Array Oper} {Q:Exit→Act→World→Prop} {S:World→Prop} {z:Nat}
def zBe(P:Program)(md:Region.Mode)(ops:Array Oper)(Q:Exit→Act→World→Prop)(S:World→Prop)(z:Nat):Nat→Array Bool→Act→World→Prop
 |0,listed,a,w=>Region.ready md ops listed=[]∧Q .normal a w
 |fuel+1,listed,a,w=>
  (Region.ready md ops listed=[]→Q .normal a w) ∧
  ∀i∈Region.ready md ops listed,wpOp P ops Q i (fun a' w'=>(i≠z→S w')∧zBe P md ops Q S z fuel (listed.setIfInBounds i true) a' w') a w
theorem zGh:∀(fuel:Nat) (listed:Array Bool) (a:Act) (w:World),zBe P md ops Q S z fuel listed a w→wpAny P md ops Q fuel listed a w
 |0,_,_,_,h=>h
 |fuel+1,_,_,_,h=>⟨h.1,fun i hi=>wpOp_mono (fun a' w' h'=>zGh fuel _ a' w' h'.2) (h.2 i hi)⟩
def zDx(md:Region.Mode)(ops:Array Oper)(z i:Nat):Bool:=((ops[z]?).map fun o=>o.after.any fun e=>Region.binds md e&&e.on==i).getD false
theorem zOp{i:Nat}{listed:Array Bool}(h:zDx md ops z i=true)(hz:z∈Region.ready md ops listed):listed.getD i false=true:=by
 obtain⟨_,oz,hoz,hall⟩:=mem_ready.1 hz;unfold zDx at h;rw[hoz]at h;simp only[Option.map_some,Option.getD_some,Array.any_eq_true]at h;obtain⟨k,hk,he⟩:=h;simp only[Bool.and_eq_true,beq_iff_eq]at he;have:=hall oz.after[k] (Array.getElem_mem hk) he.1;rw[he.2]at this;exact this
theorem zMe{i:Nat}{oi:Oper}{v:Value}(hi:ops[i]?=some oi)(hsel:∀(j:Nat) (o:Oper) cs b,ops[j]?=some o→o.op ≠ .select cs b)
 (hQ:∀c a w,Q (.panic c) (a.put oi.dst v) w→Q (.panic c) a w) (hz:zDx md ops z i=true):
 ∀(fuel:Nat) (listed:Array Bool) (a:Act) (w:World),
  (∀j oj,ops[j]?=some oj→j≠i→listed.getD j true=false→(∀e∈oj.after,Region.binds md e=true→e.on≠i)→oi.apart ops oj=true) →
  i∈Region.ready md ops listed→YieldsIf P ops S oi v a→S w →
  zBe P md ops Q S z fuel (listed.setIfInBounds i true) (a.put oi.dst v) w→zBe P md ops Q S z (fuel+1) listed a w:=by
 intro fuel
 induction fuel with
 |zero=>
  intro listed a w _ hr hy hS H;refine⟨fun h=>(by rw[h]at hr;cases hr),fun j hj=>?_⟩;by_cases hji:j=i
  · subst hji;exact hy.wpOp hi hS ⟨fun _=>hS,H⟩
  · have:=ready_mono hj hji
    rw[H.1]at this;cases this
 |succ fuel ih=>
  intro listed a w hfree hr hy hS H;refine⟨fun h=>(by rw[h]at hr;cases hr),fun j hj=>?_⟩;by_cases hji:j=i
  · subst hji;exact hy.wpOp hi hS ⟨fun _=>hS,H⟩
  · have h1:=H.2 j (ready_mono hj hji)
    obtain⟨hjun,oj,hoj,hall⟩:=mem_ready.1 hj;have hnl:listed.getD i false=true→False:=fun h1=>by
     have h0:=(mem_ready.1 hr).1;rcases Nat.lt_or_ge i listed.size with h'|h'
     · simp[h']at h0 h1;rw[h0]at h1;cases h1
     · simp[Array.getElem?_eq_none h']at h1
    have hnot:∀e∈oj.after,Region.binds md e=true→e.on≠i:=fun e he hb heq=>by
     have h1:=hall e he hb;rw[heq]at h1;exact hnl h1
    (have hjz:j≠z:=fun e=>hnl (zOp hz (e▸hj)));have h2:=wpOp_putIf hoj (hfree j oj hoj hji hjun hnot) (fun cs b=>hsel i oi cs b hi) (fun cs b=>hsel j oj cs b hoj) hQ hy h1
    have hfree':∀k ok,ops[k]?=some ok→k≠i→(listed.setIfInBounds j true).getD k true=false →
     (∀e∈ok.after,Region.binds md e=true→e.on≠i)→oi.apart ops ok=true:=fun k ok hk hki hun hno=>by
     refine hfree k ok hk hki ?_ hno;by_cases hjk:j=k
     · subst hjk;exact hjun
     · rw[getD_set_ne true hjk]at hun;exact hun
    refine wpOp_mono (fun a' w' h3=>⟨h3.2.1,ih (listed.setIfInBounds j true) a' w' hfree' (ready_mono hr (Ne.symm hji)) h3.1 (h3.2.1 hjz) ?_⟩) h2;rw[Array.setIfInBounds_comm _ _ hji];exact h3.2.2
theorem zOk{i:Nat}{oi:Oper}{v:Value}{fuel:Nat}{listed:Array Bool}{a:Act}{w:World}(hi:ops[i]?=some oi)(hz:zDx md ops z i=true)
 (hs:Region.noSelect ops=true) (hf:Region.free md ops listed i=true) (hr:(Region.ready md ops listed).contains i=true)
 (hQ:∀c a w,Q (.panic c) (a.put oi.dst v) w→Q (.panic c) a w) (hy:YieldsIf P ops S oi v a) (hS:S w)
 (h:zBe P md ops Q S z fuel (listed.setIfInBounds i true) (a.put oi.dst v) w):zBe P md ops Q S z (fuel+1) listed a w:=
 zMe hi (Region.noSelect_spec hs) hQ hz fuel listed a w (Region.free_spec hi hf) (by simpa using hr) hy hS h
theorem zOl{listed:Array Bool}{a:Act}{w:World}(hr:Region.ready md ops listed=[])(h:Q .normal a w):
 ∀fuel,zBe P md ops Q S z fuel listed a w
 |0=>⟨hr,h⟩
 |_+1=>⟨fun _=>h,by rw[hr];simp⟩
theorem zBd{id:Nat}{a:Act}{w:World}(k z:Nat)(hk:ops.size=k)(hm:P.follows .mixedOrders=true)(h:zBe P .any ops Q S z k (Array.replicate k false) a w.drew):(Code.region id ops true).wp P Q a w:=by
 subst hk;exact wp_region_any hm (zGh _ _ _ _ h)
theorem zA9{i:Nat}{oi:Oper}{v:Value}{fuel:Nat}{listed:Array Bool}{tmps:Array Value}{df:List Deferred}{w:World}(t:Tmp)(hi:ops[i]?=some oi)(hd:oi.dst=some t)(hz:zDx md ops z i=true)
 (hs:Region.noSelect ops=true) (hf:Region.free md ops listed i=true) (hr:(Region.ready md ops listed).contains i=true)
 (hQ:∀c a w,Q (.panic c) (a.put oi.dst v) w→Q (.panic c) a w) (hw:Region.wanted oi (yielded ops tmps)=true) (hy:∀w,S w→(execOp (Act.eval { tmps:=tmps,defers:=df }) oi).run P w = .ok (.value v) w) (hS:S w)
 (h:zBe P md ops Q S z fuel (listed.setIfInBounds i true) { tmps:=tmps.setIfInBounds t v,defers:=df } w):zBe P md ops Q S z (fuel+1) listed { tmps:=tmps,defers:=df } w:=by
 refine zOk hi hz hs hf hr hQ (.inl ⟨hw,hy⟩) hS ?_;rw[hd];exact h
theorem te{Fx:World→Prop}(F:∀{w},S w→Fx w)(i0:Nat)(t0:Tmp){o0:Oper}{v0:Value}{fuel:Nat}{listed:Array Bool}{tmps:Array Value}{df:List Deferred}{w:World}(h:zBe P md ops Q S z fuel (listed.setIfInBounds i0 true) { tmps:=(tmps.setIfInBounds t0 v0),defers:=df } w)(hi0:ops[i0]?=some o0:=by rfl)(hd0:o0.dst=some t0:=by rfl)(hk0:(zDx md ops z i0&&(Region.noSelect ops&&Region.free md ops listed i0&&(Region.ready md ops listed).contains i0))=true:=by kernel_rfl)(hy0:∀w,Fx w→(execOp (Act.eval { tmps:=tmps,defers:=df }) o0).run P w = .ok (.value v0) w:=by(intro _ h;go_simp;first|done|exact rfl))(hQ0:∀c a w,Q (.panic c) (a.put o0.dst v0) w→Q (.panic c) a w:=by exact fun _ _ _ h=>h)(hw0:Region.wanted o0 (yielded ops tmps)=true:=by rfl)(hS:S w:=by assumption):zBe P md ops Q S z (fuel+1) listed { tmps:=tmps,defers:=df } w:=by
 simp only[Bool.and_eq_true]at hk0;exact zA9 t0 hi0 hd0 hk0.1 hk0.2.1.1 hk0.2.1.2 hk0.2.2 hQ0 hw0 (fun w s=>hy0 w (F s)) hS h
theorem te2{Fx:World→Prop}(F:∀{w},S w→Fx w)(i0:Nat)(t0:Tmp)(i1:Nat)(t1:Tmp){o0:Oper}{v0:Value}{o1:Oper}{v1:Value}{fuel:Nat}{listed:Array Bool}{tmps:Array Value}{df:List Deferred}{w:World}(h:zBe P md ops Q S z fuel ((listed.setIfInBounds i0 true).setIfInBounds i1 true) { tmps:=((tmps.setIfInBounds t0 v0).setIfInBounds t1 v1),defers:=df } w)(hi0:ops[i0]?=some o0:=by rfl)(hd0:o0.dst=some t0:=by rfl)(hk0:(zDx md ops z i0&&(Region.noSelect ops&&Region.free md ops listed i0&&(Region.ready md ops listed).contains i0))=true:=by kernel_rfl)(hy0:∀w,Fx w→(execOp (Act.eval { tmps:=tmps,defers:=df }) o0).run P w = .ok (.value v0) w:=by(intro _ h;go_simp;first|done|exact rfl))(hQ0:∀c a w,Q (.panic c) (a.put o0.dst v0) w→Q (.panic c) a w:=by exact fun _ _ _ h=>h)(hw0:Region.wanted o0 (yielded ops tmps)=true:=by rfl)(hi1:ops[i1]?=some o1:=by rfl)(hd1:o1.dst=some t1:=by rfl)(hk1:(zDx md ops z i1&&(Region.noSelect ops&&Region.free md ops (listed.setIfInBounds i0 true) i1&&(Region.ready md ops (listed.setIfInBounds i0 true)).contains i1))=true:=by kernel_rfl)(hy1:∀w,Fx w→(execOp (Act.eval { tmps:=(tmps.setIfInBounds t0 v0),defers:=df }) o1).run P w = .ok (.value v1) w:=by(intro _ h;simp only[sZa,sZb,sZc];go_simp;first|done|exact rfl))(hQ1:∀c a w,Q (.panic c) (a.put o1.dst v1) w→Q (.panic c) a w:=by exact fun _ _ _ h=>h)(hw1:Region.wanted o1 (yielded ops (tmps.setIfInBounds t0 v0))=true:=by rfl)(hS:S w:=by assumption):zBe P md ops Q S z (fuel+2) listed { tmps:=tmps,defers:=df } w:=by
 exact te F i0 t0 (te F i1 t1 (h) hi1 hd1 hk1 hy1 hQ1 hw1 hS) hi0 hd0 hk0 hy0 hQ0 hw0 hS
theorem te4{Fx:World→Prop}(F:∀{w},S w→Fx w)(i0:Nat)(t0:Tmp)(i1:Nat)(t1:Tmp)(i2:Nat)(t2:Tmp)(i3:Nat)(t3:Tmp){o0:Oper}{v0:Value}{o1:Oper}{v1:Value}{o2:Oper}{v2:Value}{o3:Oper}{v3:Value}{fuel:Nat}{listed:Array Bool}{tmps:Array Value}{df:List Deferred}{w:World}(h:zBe P md ops Q S z fuel ((((listed.setIfInBounds i0 true).setIfInBounds i1 true).setIfInBounds i2 true).setIfInBounds i3 true) { tmps:=((((tmps.setIfInBounds t0 v0).setIfInBounds t1 v1).setIfInBounds t2 v2).setIfInBounds t3 v3),defers:=df } w)(hi0:ops[i0]?=some o0:=by rfl)(hd0:o0.dst=some t0:=by rfl)(hk0:(zDx md ops z i0&&(Region.noSelect ops&&Region.free md ops listed i0&&(Region.ready md ops listed).contains i0))=true:=by kernel_rfl)(hy0:∀w,Fx w→(execOp (Act.eval { tmps:=tmps,defers:=df }) o0).run P w = .ok (.value v0) w:=by(intro _ h;go_simp;first|done|exact rfl))(hQ0:∀c a w,Q (.panic c) (a.put o0.dst v0) w→Q (.panic c) a w:=by exact fun _ _ _ h=>h)(hw0:Region.wanted o0 (yielded ops tmps)=true:=by rfl)(hi1:ops[i1]?=some o1:=by rfl)(hd1:o1.dst=some t1:=by rfl)(hk1:(zDx md ops z i1&&(Region.noSelect ops&&Region.free md ops (listed.setIfInBounds i0 true) i1&&(Region.ready md ops (listed.setIfInBounds i0 true)).contains i1))=true:=by kernel_rfl)(hy1:∀w,Fx w→(execOp (Act.eval { tmps:=(tmps.setIfInBounds t0 v0),defers:=df }) o1).run P w = .ok (.value v1) w:=by(intro _ h;simp only[sZa,sZb,sZc];go_simp;first|done|exact rfl))(hQ1:∀c a w,Q (.panic c) (a.put o1.dst v1) w→Q (.panic c) a w:=by exact fun _ _ _ h=>h)(hw1:Region.wanted o1 (yielded ops (tmps.setIfInBounds t0 v0))=true:=by rfl)(hi2:ops[i2]?=some o2:=by rfl)(hd2:o2.dst=some t2:=by rfl)(hk2:(zDx md ops z i2&&(Region.noSelect ops&&Region.free md ops ((listed.setIfInBounds i0 true).setIfInBounds i1 true) i2&&(Region.ready md ops ((listed.setIfInBounds i0 true).setIfInBounds i1 true)).contains i2))=true:=by kernel_rfl)(hy2:∀w,Fx w→(execOp (Act.eval { tmps:=((tmps.setIfInBounds t0 v0).setIfInBounds t1 v1),defers:=df }) o2).run P w = .ok (.value v2) w:=by(intro _ h;simp only[sZa,sZb,sZc];go_simp;first|done|exact rfl))(hQ2:∀c a w,Q (.panic c) (a.put o2.dst v2) w→Q (.panic c) a w:=by exact fun _ _ _ h=>h)(hw2:Region.wanted o2 (yielded ops ((tmps.setIfInBounds t0 v0).setIfInBounds t1 v1))=true:=by rfl)(hi3:ops[i3]?=some o3:=by rfl)(hd3:o3.dst=some t3:=by rfl)(hk3:(zDx md ops z i3&&(Region.noSelect ops&&Region.free md ops (((listed.setIfInBounds i0 true).setIfInBounds i1 true).setIfInBounds i2 true) i3&&(Region.ready md ops (((listed.setIfInBounds i0 true).setIfInBounds i1 true).setIfInBounds i2 true)).contains i3))=true:=by kernel_rfl)(hy3:∀w,Fx w→(execOp (Act.eval { tmps:=(((tmps.setIfInBounds t0 v0).setIfInBounds t1 v1).setIfInBounds t2 v2),defers:=df }) o3).run P w = .ok (.value v3) w:=by(intro _ h;simp only[sZa,sZb,sZc];go_simp;first|done|exact rfl))(hQ3:∀c a w,Q (.panic c) (a.put o3.dst v3) w→Q (.panic c) a w:=by exact fun _ _ _ h=>h)(hw3:Region.wanted o3 (yielded ops (((tmps.setIfInBounds t0 v0).setIfInBounds t1 v1).setIfInBounds t2 v2))=true:=by rfl)(hS:S w:=by assumption):zBe P md ops Q S z (fuel+4) listed { tmps:=tmps,defers:=df } w:=by
 exact te F i0 t0 (te F i1 t1 (te F i2 t2 (te F i3 t3 (h) hi3 hd3 hk3 hy3 hQ3 hw3 hS) hi2 hd2 hk2 hy2 hQ2 hw2 hS) hi1 hd1 hk1 hy1 hQ1 hw1 hS) hi0 hd0 hk0 hy0 hQ0 hw0 hS
theorem zO7{i:Nat}{o:Oper}{fuel:Nat}{listed:Array Bool}{a:Act}{w:World}(hr:Region.ready md ops listed=[i])(ho:ops[i]?=some o)(hw:Region.wanted o (yielded ops a.tmps)=true)
 (h:o.wp P a w (fun a' w'=>(i≠z→S w')∧zBe P md ops Q S z fuel (listed.setIfInBounds i true) a' w') Q):zBe P md ops Q S z (fuel+1) listed a w:=by
 refine⟨fun e=>(by rw[hr]at e;cases e),fun j hj=>?_⟩;rw[hr,List.mem_singleton]at hj;subst hj;unfold wpOp;simp only[ho,hw,if_true];exact .inl h
theorem zFu{i:Nat}{o:Oper}{fuel:Nat}{listed:Array Bool}{tmps:Array Value}{df:List Deferred}{w w0:World}(t:Tmp)(f:FuncId)(args:Array Value)(hr:Region.ready md ops listed=[i])(ho:ops[i]?=some o)(hd:o.dst=some t)(hw:Region.wanted o (yielded ops tmps)=true)
 (hrun:(execOp (Act.eval { tmps:=tmps,defers:=df }) o).run P w = .ok (.enter f args) w0)
 (h:Calls P f args w0 fun e w'=>∃v,e = .returned v∧S w'∧zBe P md ops Q S z fuel (listed.setIfInBounds i true) { tmps:=tmps.setIfInBounds t v,defers:=df } w'):zBe P md ops Q S z (fuel+1) listed { tmps:=tmps,defers:=df } w:=by
 refine zO7 hr ho hw ?_;unfold Oper.wp;rw[hrun,Oper.upon_enter];refine h.mono ?_;rintro e w' ⟨v,rfl,hS,h2⟩;refine⟨fun _=>hS,?_⟩;rw[hd];exact h2
theorem zAg{i:Nat}{o:Oper}{fuel:Nat}{listed:Array Bool}{tmps:Array Value}{df:List Deferred}{w w':World}{v:Value}(t:Tmp)(hr:Region.ready md ops listed=[i])(ho:ops[i]?=some o)(hd:o.dst=some t)(hw:Region.wanted o (yielded ops tmps)=true)
 (hrun:(execOp (Act.eval { tmps:=tmps,defers:=df }) o).run P w = .ok (.value v) w') (hS:S w') (h:zBe P md ops Q S z fuel (listed.setIfInBounds i true) { tmps:=tmps.setIfInBounds t v,defers:=df } w'):zBe P md ops Q S z (fuel+1) listed { tmps:=tmps,defers:=df } w:=by
 refine zO7 hr ho hw ?_;unfold Oper.wp;rw[hrun,Oper.upon_value,hd];exact⟨fun _=>hS,h⟩
theorem zA6{o:Oper}{fuel:Nat}{listed:Array Bool}{a:Act}{w w':World}(hr:Region.ready md ops listed=[z])(ho:ops[z]?=some o)(hd:o.dst=none)(hw:Region.wanted o (yielded ops a.tmps)=true)
 (hrun:(execOp a.eval o).run P w = .ok .skip w') (hend:Region.ready md ops (listed.setIfInBounds z true)=[]) (h:Q .normal a w'):zBe P md ops Q S z (fuel+1) listed a w:=by
 refine zO7 hr ho hw ?_;unfold Oper.wp;rw[hrun];simp only[Oper.upon,hd];exact⟨fun e=>absurd rfl e,zOl hend h _⟩
end
end
section
open Go.RowKit
variable {P:Program} {md:Region.Mode} {ops:Array Oper} {Q:Exit→Act→World→Prop} {S:World→Prop}
theorem pass_at{i:Nat}{oi:Oper}{fuel:Nat}{listed:Array Bool}{tmps:Array Value}{df:List Deferred}{w:World}(t:Tmp)(hi:ops[i]?=some oi)(hd:oi.dst=some t)
 (hs:Region.noSelect ops=true) (hf:Region.free md ops listed i=true) (hr:(Region.ready md ops listed).contains i=true)
 (hQ:∀c a w,Q (.panic c) (a.put oi.dst undef) w→Q (.panic c) a w) (hw:Region.wanted oi (yielded ops tmps)=false) (hS:S w)
 (h:wpAnyH P md ops Q S fuel (listed.setIfInBounds i true) { tmps:=tmps.setIfInBounds t undef,defers:=df } w):wpAnyH P md ops Q S (fuel+1) listed { tmps:=tmps,defers:=df } w:=by
 refine wpAnyH_take hi hs hf hr hQ (.inr ⟨hw,rfl⟩) hS ?_;rw[hd];exact h
theorem pk{i:Nat}{oi:Oper}{fuel:Nat}{listed:Array Bool}{tmps:Array Value}{df:List Deferred}{w:World}(t:Tmp)(hi:ops[i]?=some oi)(hd:oi.dst=some t)
 (hk:(Region.noSelect ops&&Region.free md ops listed i&&(Region.ready md ops listed).contains i)=true)
 (hQ:∀c a w,Q (.panic c) (a.put oi.dst undef) w→Q (.panic c) a w) (hw:Region.wanted oi (yielded ops tmps)=false) (hS:S w)
 (h:wpAnyH P md ops Q S fuel (listed.setIfInBounds i true) { tmps:=tmps.setIfInBounds t undef,defers:=df } w):wpAnyH P md ops Q S (fuel+1) listed { tmps:=tmps,defers:=df } w:=by
 simp only[Bool.and_eq_true]at hk;exact pass_at t hi hd hk.1.1 hk.1.2 hk.2 hQ hw hS h
theorem pq(i:Nat)(t:Tmp){oi:Oper}{fuel:Nat}{listed:Array Bool}{tmps:Array Value}{df:List Deferred}{w:World}
 (h:wpAnyH P md ops Q S fuel (listed.setIfInBounds i true) { tmps:=tmps.setIfInBounds t undef,defers:=df } w)(hi:ops[i]?=some oi:=by rfl)(hd:oi.dst=some t:=by rfl)(hk:(Region.noSelect ops&&Region.free md ops listed i&&(Region.ready md ops listed).contains i)=true:=by kernel_rfl)
 (hQ:∀c a w,Q (.panic c) (a.put oi.dst undef) w→Q (.panic c) a w:=by exact fun _ _ _ h=>h)(hw:Region.wanted oi (yielded ops tmps)=false:=by rfl)(hS:S w:=by assumption):wpAnyH P md ops Q S (fuel+1) listed { tmps:=tmps,defers:=df } w:=pk t hi hd hk hQ hw hS h
end
