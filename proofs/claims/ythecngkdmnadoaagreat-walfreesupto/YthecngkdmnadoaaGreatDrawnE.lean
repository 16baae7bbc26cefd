import Derived.Test.YthecngkdmnadoaaGreatDrawn
namespace Go.Proofs.YthecngkdmnadoaaGreat
open Go.RowKit
section
variable {P:Program} {md:Region.Mode} {ops:Array Oper} {Q:Exit→Act→World→Prop} {S:World→Prop} {z:Nat}
def wpAnyE(P:Program)(md:Region.Mode)(ops:Array Oper)(Q:Exit→Act→World→Prop)(S:World→Prop)(z:Nat):Nat→Array Bool→Act→World→Prop
 |0,listed,a,w=>Region.ready md ops listed=[]∧Q .normal a w
 |fuel+1,listed,a,w=>
  (Region.ready md ops listed=[]→Q .normal a w) ∧
  ∀i∈Region.ready md ops listed,wpOp P ops Q i (fun a' w'=>(i≠z→S w')∧wpAnyE P md ops Q S z fuel (listed.setIfInBounds i true) a' w') a w
theorem wpAny_of_E:∀(fuel:Nat) (listed:Array Bool) (a:Act) (w:World),wpAnyE P md ops Q S z fuel listed a w→wpAny P md ops Q fuel listed a w
 |0,_,_,_,h=>h
 |fuel+1,_,_,_,h=>⟨h.1,fun i hi=>wpOp_mono (fun a' w' h'=>wpAny_of_E fuel _ a' w' h'.2) (h.2 i hi)⟩
def waitsZ(md:Region.Mode)(ops:Array Oper)(z i:Nat):Bool:=((ops[z]?).map fun o=>o.after.any fun e=>Region.binds md e&&e.on==i).getD false
theorem waitsZ_spec{i:Nat}{listed:Array Bool}(h:waitsZ md ops z i=true)(hz:z∈Region.ready md ops listed):listed.getD i false=true:=by
 obtain⟨_,oz,hoz,hall⟩:=mem_ready.1 hz;unfold waitsZ at h;rw[hoz]at h;simp only[Option.map_some,Option.getD_some,Array.any_eq_true]at h;obtain⟨k,hk,he⟩:=h;simp only[Bool.and_eq_true,beq_iff_eq]at he;have:=hall oz.after[k] (Array.getElem_mem hk) he.1;rw[he.2]at this;exact this
theorem wpAnyE_first{i:Nat}{oi:Oper}{v:Value}(hi:ops[i]?=some oi)(hsel:∀(j:Nat) (o:Oper) cs b,ops[j]?=some o→o.op ≠ .select cs b)
 (hQ:∀c a w,Q (.panic c) (a.put oi.dst v) w→Q (.panic c) a w) (hz:waitsZ md ops z i=true):
 ∀(fuel:Nat) (listed:Array Bool) (a:Act) (w:World),
  (∀j oj,ops[j]?=some oj→j≠i→listed.getD j true=false→(∀e∈oj.after,Region.binds md e=true→e.on≠i)→oi.apart ops oj=true) →
  i∈Region.ready md ops listed→YieldsIf P ops S oi v a→S w →
  wpAnyE P md ops Q S z fuel (listed.setIfInBounds i true) (a.put oi.dst v) w→wpAnyE P md ops Q S z (fuel+1) listed a w:=by
 intro fuel
 induction fuel with
 |zero=>
  intro listed a w _ hr hy hS H;refine⟨fun h=>(by rw[h]at hr;cases hr),fun j hj=>?_⟩;by_cases hji:j=i
  · subst hji;exact hy.wpOp hi hS ⟨fun _=>hS,H⟩
  · have:=ready_mono hj hji
    rw[H.1]at this;cases this
 |succ fuel ih=>
  intro listed a w hfree hr hy hS H;refine⟨fun h=>(by rw[h]at hr;cases hr),fun j hj=>?_⟩;by_cases hji:j=i
  · subst hji;exact hy.wpOp hi hS ⟨fun _=>hS,H⟩
  · have h1:=H.2 j (ready_mono hj hji)
    obtain⟨hjun,oj,hoj,hall⟩:=mem_ready.1 hj;have hnl:listed.getD i false=true→False:=fun h1=>by
     have h0:=(mem_ready.1 hr).1;rcases Nat.lt_or_ge i listed.size with h'|h'
     · simp[h']at h0 h1;rw[h0]at h1;cases h1
     · simp[Array.getElem?_eq_none h']at h1
    have hnot:∀e∈oj.after,Region.binds md e=true→e.on≠i:=fun e he hb heq=>by
     have h1:=hall e he hb;rw[heq]at h1;exact hnl h1
    (have hjz:j≠z:=fun e=>hnl (waitsZ_spec hz (e▸hj)));have h2:=wpOp_putIf hoj (hfree j oj hoj hji hjun hnot) (fun cs b=>hsel i oi cs b hi) (fun cs b=>hsel j oj cs b hoj) hQ hy h1
    have hfree':∀k ok,ops[k]?=some ok→k≠i→(listed.setIfInBounds j true).getD k true=false →
     (∀e∈ok.after,Region.binds md e=true→e.on≠i)→oi.apart ops ok=true:=fun k ok hk hki hun hno=>by
     refine hfree k ok hk hki ?_ hno;by_cases hjk:j=k
     · subst hjk;exact hjun
     · rw[getD_set_ne true hjk]at hun;exact hun
    refine wpOp_mono (fun a' w' h3=>⟨h3.2.1,ih (listed.setIfInBounds j true) a' w' hfree' (ready_mono hr (Ne.symm hji)) h3.1 (h3.2.1 hjz) ?_⟩) h2;rw[Array.setIfInBounds_comm _ _ hji];exact h3.2.2
theorem wpAnyE_take{i:Nat}{oi:Oper}{v:Value}{fuel:Nat}{listed:Array Bool}{a:Act}{w:World}(hi:ops[i]?=some oi)(hz:waitsZ md ops z i=true)
 (hs:Region.noSelect ops=true) (hf:Region.free md ops listed i=true) (hr:(Region.ready md ops listed).contains i=true)
 (hQ:∀c a w,Q (.panic c) (a.put oi.dst v) w→Q (.panic c) a w) (hy:YieldsIf P ops S oi v a) (hS:S w)
 (h:wpAnyE P md ops Q S z fuel (listed.setIfInBounds i true) (a.put oi.dst v) w):wpAnyE P md ops Q S z (fuel+1) listed a w:=
 wpAnyE_first hi (Region.noSelect_spec hs) hQ hz fuel listed a w (Region.free_spec hi hf) (by simpa using hr) hy hS h
theorem wpAnyE_done{listed:Array Bool}{a:Act}{w:World}(hr:Region.ready md ops listed=[])(h:Q .normal a w):
 ∀fuel,wpAnyE P md ops Q S z fuel listed a w
 |0=>⟨hr,h⟩
 |_+1=>⟨fun _=>h,by rw[hr];simp⟩
theorem region_atE{id:Nat}{a:Act}{w:World}(k z:Nat)(hk:ops.size=k)(hm:P.follows .mixedOrders=true)(h:wpAnyE P .any ops Q S z k (Array.replicate k false) a w.drew):(Code.region id ops true).wp P Q a w:=by
 subst hk;exact wp_region_any hm (wpAny_of_E _ _ _ _ h)
theorem take_atE{i:Nat}{oi:Oper}{v:Value}{fuel:Nat}{listed:Array Bool}{tmps:Array Value}{df:List Deferred}{w:World}(t:Tmp)(hi:ops[i]?=some oi)(hd:oi.dst=some t)(hz:waitsZ md ops z i=true)
 (hs:Region.noSelect ops=true) (hf:Region.free md ops listed i=true) (hr:(Region.ready md ops listed).contains i=true)
 (hQ:∀c a w,Q (.panic c) (a.put oi.dst v) w→Q (.panic c) a w) (hw:Region.wanted oi (yielded ops tmps)=true) (hy:∀w,S w→(execOp (Act.eval { tmps:=tmps,defers:=df }) oi).run P w = .ok (.value v) w) (hS:S w)
 (h:wpAnyE P md ops Q S z fuel (listed.setIfInBounds i true) { tmps:=tmps.setIfInBounds t v,defers:=df } w):wpAnyE P md ops Q S z (fuel+1) listed { tmps:=tmps,defers:=df } w:=by
 refine wpAnyE_take hi hz hs hf hr hQ (.inl ⟨hw,hy⟩) hS ?_;rw[hd];exact h
theorem te{Fx:World→Prop}(F:∀{w},S w→Fx w)(i0:Nat)(t0:Tmp){o0:Oper}{v0:Value}{fuel:Nat}{listed:Array Bool}{tmps:Array Value}{df:List Deferred}{w:World}(h:wpAnyE P md ops Q S z fuel (listed.setIfInBounds i0 true) { tmps:=(tmps.setIfInBounds t0 v0),defers:=df } w)(hi0:ops[i0]?=some o0:=by rfl)(hd0:o0.dst=some t0:=by rfl)(hk0:(waitsZ md ops z i0&&(Region.noSelect ops&&Region.free md ops listed i0&&(Region.ready md ops listed).contains i0))=true:=by kernel_rfl)(hy0:∀w,Fx w→(execOp (Act.eval { tmps:=tmps,defers:=df }) o0).run P w = .ok (.value v0) w:=by(intro _ h;go_simp;first|done|exact rfl))(hQ0:∀c a w,Q (.panic c) (a.put o0.dst v0) w→Q (.panic c) a w:=by exact fun _ _ _ h=>h)(hw0:Region.wanted o0 (yielded ops tmps)=true:=by rfl)(hS:S w:=by assumption):wpAnyE P md ops Q S z (fuel+1) listed { tmps:=tmps,defers:=df } w:=by
 simp only[Bool.and_eq_true]at hk0;exact take_atE t0 hi0 hd0 hk0.1 hk0.2.1.1 hk0.2.1.2 hk0.2.2 hQ0 hw0 (fun w s=>hy0 w (F s)) hS h
theorem te2{Fx:World→Prop}(F:∀{w},S w→Fx w)(i0:Nat)(t0:Tmp)(i1:Nat)(t1:Tmp){o0:Oper}{v0:Value}{o1:Oper}{v1:Value}{fuel:Nat}{listed:Array Bool}{tmps:Array Value}{df:List Deferred}{w:World}(h:wpAnyE P md ops Q S z fuel ((listed.setIfInBounds i0 true).setIfInBounds i1 true) { tmps:=((tmps.setIfInBounds t0 v0).setIfInBounds t1 v1),defers:=df } w)(hi0:ops[i0]?=some o0:=by rfl)(hd0:o0.dst=some t0:=by rfl)(hk0:(waitsZ md ops z i0&&(Region.noSelect ops&&Region.free md ops listed i0&&(Region.ready md ops listed).contains i0))=true:=by kernel_rfl)(hy0:∀w,Fx w→(execOp (Act.eval { tmps:=tmps,defers:=df }) o0).run P w = .ok (.value v0) w:=by(intro _ h;go_simp;first|done|exact rfl))(hQ0:∀c a w,Q (.panic c) (a.put o0.dst v0) w→Q (.panic c) a w:=by exact fun _ _ _ h=>h)(hw0:Region.wanted o0 (yielded ops tmps)=true:=by rfl)(hi1:ops[i1]?=some o1:=by rfl)(hd1:o1.dst=some t1:=by rfl)(hk1:(waitsZ md ops z i1&&(Region.noSelect ops&&Region.free md ops (listed.setIfInBounds i0 true) i1&&(Region.ready md ops (listed.setIfInBounds i0 true)).contains i1))=true:=by kernel_rfl)(hy1:∀w,Fx w→(execOp (Act.eval { tmps:=(tmps.setIfInBounds t0 v0),defers:=df }) o1).run P w = .ok (.value v1) w:=by(intro _ h;simp only[sZa,sZb,sZc];go_simp;first|done|exact rfl))(hQ1:∀c a w,Q (.panic c) (a.put o1.dst v1) w→Q (.panic c) a w:=by exact fun _ _ _ h=>h)(hw1:Region.wanted o1 (yielded ops (tmps.setIfInBounds t0 v0))=true:=by rfl)(hS:S w:=by assumption):wpAnyE P md ops Q S z (fuel+2) listed { tmps:=tmps,defers:=df } w:=by
 exact te F i0 t0 (te F i1 t1 (h) hi1 hd1 hk1 hy1 hQ1 hw1 hS) hi0 hd0 hk0 hy0 hQ0 hw0 hS
theorem te4{Fx:World→Prop}(F:∀{w},S w→Fx w)(i0:Nat)(t0:Tmp)(i1:Nat)(t1:Tmp)(i2:Nat)(t2:Tmp)(i3:Nat)(t3:Tmp){o0:Oper}{v0:Value}{o1:Oper}{v1:Value}{o2:Oper}{v2:Value}{o3:Oper}{v3:Value}{fuel:Nat}{listed:Array Bool}{tmps:Array Value}{df:List Deferred}{w:World}(h:wpAnyE P md ops Q S z fuel ((((listed.setIfInBounds i0 true).setIfInBounds i1 true).setIfInBounds i2 true).setIfInBounds i3 true) { tmps:=((((tmps.setIfInBounds t0 v0).setIfInBounds t1 v1).setIfInBounds t2 v2).setIfInBounds t3 v3),defers:=df } w)(hi0:ops[i0]?=some o0:=by rfl)(hd0:o0.dst=some t0:=by rfl)(hk0:(waitsZ md ops z i0&&(Region.noSelect ops&&Region.free md ops listed i0&&(Region.ready md ops listed).contains i0))=true:=by kernel_rfl)(hy0:∀w,Fx w→(execOp (Act.eval { tmps:=tmps,defers:=df }) o0).run P w = .ok (.value v0) w:=by(intro _ h;go_simp;first|done|exact rfl))(hQ0:∀c a w,Q (.panic c) (a.put o0.dst v0) w→Q (.panic c) a w:=by exact fun _ _ _ h=>h)(hw0:Region.wanted o0 (yielded ops tmps)=true:=by rfl)(hi1:ops[i1]?=some o1:=by rfl)(hd1:o1.dst=some t1:=by rfl)(hk1:(waitsZ md ops z i1&&(Region.noSelect ops&&Region.free md ops (listed.setIfInBounds i0 true) i1&&(Region.ready md ops (listed.setIfInBounds i0 true)).contains i1))=true:=by kernel_rfl)(hy1:∀w,Fx w→(execOp (Act.eval { tmps:=(tmps.setIfInBounds t0 v0),defers:=df }) o1).run P w = .ok (.value v1) w:=by(intro _ h;simp only[sZa,sZb,sZc];go_simp;first|done|exact rfl))(hQ1:∀c a w,Q (.panic c) (a.put o1.dst v1) w→Q (.panic c) a w:=by exact fun _ _ _ h=>h)(hw1:Region.wanted o1 (yielded ops (tmps.setIfInBounds t0 v0))=true:=by rfl)(hi2:ops[i2]?=some o2:=by rfl)(hd2:o2.dst=some t2:=by rfl)(hk2:(waitsZ md ops z i2&&(Region.noSelect ops&&Region.free md ops ((listed.setIfInBounds i0 true).setIfInBounds i1 true) i2&&(Region.ready md ops ((listed.setIfInBounds i0 true).setIfInBounds i1 true)).contains i2))=true:=by kernel_rfl)(hy2:∀w,Fx w→(execOp (Act.eval { tmps:=((tmps.setIfInBounds t0 v0).setIfInBounds t1 v1),defers:=df }) o2).run P w = .ok (.value v2) w:=by(intro _ h;simp only[sZa,sZb,sZc];go_simp;first|done|exact rfl))(hQ2:∀c a w,Q (.panic c) (a.put o2.dst v2) w→Q (.panic c) a w:=by exact fun _ _ _ h=>h)(hw2:Region.wanted o2 (yielded ops ((tmps.setIfInBounds t0 v0).setIfInBounds t1 v1))=true:=by rfl)(hi3:ops[i3]?=some o3:=by rfl)(hd3:o3.dst=some t3:=by rfl)(hk3:(waitsZ md ops z i3&&(Region.noSelect ops&&Region.free md ops (((listed.setIfInBounds i0 true).setIfInBounds i1 true).setIfInBounds i2 true) i3&&(Region.ready md ops (((listed.setIfInBounds i0 true).setIfInBounds i1 true).setIfInBounds i2 true)).contains i3))=true:=by kernel_rfl)(hy3:∀w,Fx w→(execOp (Act.eval { tmps:=(((tmps.setIfInBounds t0 v0).setIfInBounds t1 v1).setIfInBounds t2 v2),defers:=df }) o3).run P w = .ok (.value v3) w:=by(intro _ h;simp only[sZa,sZb,sZc];go_simp;first|done|exact rfl))(hQ3:∀c a w,Q (.panic c) (a.put o3.dst v3) w→Q (.panic c) a w:=by exact fun _ _ _ h=>h)(hw3:Region.wanted o3 (yielded ops (((tmps.setIfInBounds t0 v0).setIfInBounds t1 v1).setIfInBounds t2 v2))=true:=by rfl)(hS:S w:=by assumption):wpAnyE P md ops Q S z (fuel+4) listed { tmps:=tmps,defers:=df } w:=by
 exact te F i0 t0 (te F i1 t1 (te F i2 t2 (te F i3 t3 (h) hi3 hd3 hk3 hy3 hQ3 hw3 hS) hi2 hd2 hk2 hy2 hQ2 hw2 hS) hi1 hd1 hk1 hy1 hQ1 hw1 hS) hi0 hd0 hk0 hy0 hQ0 hw0 hS
theorem one_atE{i:Nat}{o:Oper}{fuel:Nat}{listed:Array Bool}{a:Act}{w:World}(hr:Region.ready md ops listed=[i])(ho:ops[i]?=some o)(hw:Region.wanted o (yielded ops a.tmps)=true)
 (h:o.wp P a w (fun a' w'=>(i≠z→S w')∧wpAnyE P md ops Q S z fuel (listed.setIfInBounds i true) a' w') Q):wpAnyE P md ops Q S z (fuel+1) listed a w:=by
 refine⟨fun e=>(by rw[hr]at e;cases e),fun j hj=>?_⟩;rw[hr,List.mem_singleton]at hj;subst hj;unfold wpOp;simp only[ho,hw,if_true];exact .inl h
theorem one_callE{i:Nat}{o:Oper}{fuel:Nat}{listed:Array Bool}{tmps:Array Value}{df:List Deferred}{w w0:World}(t:Tmp)(f:FuncId)(args:Array Value)(hr:Region.ready md ops listed=[i])(ho:ops[i]?=some o)(hd:o.dst=some t)(hw:Region.wanted o (yielded ops tmps)=true)
 (hrun:(execOp (Act.eval { tmps:=tmps,defers:=df }) o).run P w = .ok (.enter f args) w0)
 (h:Calls P f args w0 fun e w'=>∃v,e = .returned v∧S w'∧wpAnyE P md ops Q S z fuel (listed.setIfInBounds i true) { tmps:=tmps.setIfInBounds t v,defers:=df } w'):wpAnyE P md ops Q S z (fuel+1) listed { tmps:=tmps,defers:=df } w:=by
 refine one_atE hr ho hw ?_;unfold Oper.wp;rw[hrun,Oper.upon_enter];refine h.mono ?_;rintro e w' ⟨v,rfl,hS,h2⟩;refine⟨fun _=>hS,?_⟩;rw[hd];exact h2
theorem one_valueE{i:Nat}{o:Oper}{fuel:Nat}{listed:Array Bool}{tmps:Array Value}{df:List Deferred}{w w':World}{v:Value}(t:Tmp)(hr:Region.ready md ops listed=[i])(ho:ops[i]?=some o)(hd:o.dst=some t)(hw:Region.wanted o (yielded ops tmps)=true)
 (hrun:(execOp (Act.eval { tmps:=tmps,defers:=df }) o).run P w = .ok (.value v) w') (hS:S w') (h:wpAnyE P md ops Q S z fuel (listed.setIfInBounds i true) { tmps:=tmps.setIfInBounds t v,defers:=df } w'):wpAnyE P md ops Q S z (fuel+1) listed { tmps:=tmps,defers:=df } w:=by
 refine one_atE hr ho hw ?_;unfold Oper.wp;rw[hrun,Oper.upon_value,hd];exact⟨fun _=>hS,h⟩
theorem last_skipE{o:Oper}{fuel:Nat}{listed:Array Bool}{a:Act}{w w':World}(hr:Region.ready md ops listed=[z])(ho:ops[z]?=some o)(hd:o.dst=none)(hw:Region.wanted o (yielded ops a.tmps)=true)
 (hrun:(execOp a.eval o).run P w = .ok .skip w') (hend:Region.ready md ops (listed.setIfInBounds z true)=[]) (h:Q .normal a w'):wpAnyE P md ops Q S z (fuel+1) listed a w:=by
 refine one_atE hr ho hw ?_;unfold Oper.wp;rw[hrun];simp only[Oper.upon,hd];exact⟨fun e=>absurd rfl e,wpAnyE_done hend h _⟩
end
end Go.Proofs.YthecngkdmnadoaaGreat
