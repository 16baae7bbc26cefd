import Derived.Test.YthecngkdmnadoaaGreatG28
import Derived.Test.YthecngkdmnadoaaGreatG25
import Derived.Test.YthecngkdmnadoaaGreatG24
import Derived.Test.YthecngkdmnadoaaGreatDrawnE
namespace Go.Proofs.YthecngkdmnadoaaGreat
open Go.RowKit
set_option maxRecDepth 100000
structure RTy(T TS:TypeId)(k bytes:Nat):Prop where
 und:Tryz.prog.underlying TS=some (.slice T)
 inf:∃z,(Tryz.prog.info? T).map (fun i=>(i.zero,i.size,i.bytes))=some (some z,k,bytes)∧z.cells.size=k
 pos:0<k
 small:bytes≤64
def Cells(k:Nat)(x:List Value):Prop:=x.length=k∧∀u∈x,u.oneCell'=true
def GOwn(T:TypeId)(k B:Nat)(w:World)(v:Value)(xss:List (List Value)):Prop:=(∀x∈xss,Cells k x)∧w.ownsRow B T k v xss.length xss.flatten
variable {T TS:TypeId} {k bytes B:Nat} {w w':World} {v:Value} {xss:List (List Value)}
theorem gappend_run(R:RTy T TS k bytes)(hown:GOwn T k B w v xss)(hB:B≤w.heap.size){x:List Value}(hx:Cells k x){nb:Nat}(hc:∀j u,x[j]?=some u→w.cell? ⟨nb,j,none⟩=some u)(h63:xss.length<1099511627776)(ty:TypeId)(c:Nat):
 ∃v' w',(Builtin.append_ #[TS,TS] ty #[v,.slice (some ⟨nb,0,none⟩) 1 c]).run Tryz.prog w = .ok v' w'∧GOwn T k B w' v' (xss++[x])∧w.grownBy w' v.ownBlock∧(v'.ownBlock=v.ownBlock∨∃g,v'.ownBlock=some g∧w.heap.size≤g):=by
 obtain⟨z,hz,hzs⟩:=R.inf;obtain⟨i0,hi,hz0,hz1,hz2⟩:=info_parts hz;obtain⟨v',w',h1,h2,h3,_⟩:=run_append_own (P:=Tryz.prog) w B TS ty T i0 z k bytes R.und hi hz0 hz1 hz2 hzs R.pos v xss.length xss.flatten hown.2 ⟨nb,0,none⟩ 1 c x (by rw[hx.1];omega) (fun j u hj=>by
  have hadd:∀j,(⟨nb,0,none⟩:Addr).add j=⟨nb,0+j,none⟩:=fun j=>by unfold Addr.add;split<;>simp_all
  rw[hadd,Nat.zero_add]
  exact hc j u hj) hx.2 (by simp only [maxLen]; omega) (by have := R.small; calc (xss.length + 1) * bytes ≤ (xss.length + 1) * 64 := Nat.mul_le_mul_left _ this
                                                                       _≤140737488355328:=by omega) hB
 have hown':GOwn T k B w' v' (xss++[x]):=by
  refine⟨fun y hy=>?_,?_⟩
  · rcases List.mem_append.1 hy with hy|hy
    · exact hown.1 y hy
    · rw[List.mem_singleton.1 hy];exact hx
  · rw[List.length_append,List.flatten_append]
    simpa using h2
 refine⟨v',w',h1,hown',h3,?_⟩;have hadd:∀j,(⟨nb,0,none⟩:Addr).add j=⟨nb,j,none⟩:=fun j=>by unfold Addr.add;split<;>simp_all
 have hnews:∀j u,x[j]?=some u→w.cell? ((⟨nb,0,none⟩:Addr).add j)=some u:=fun j u hj=>by rw[hadd];exact hc j u hj
 have hl:x.length=1*i0.size:=by rw[hx.1,hz1];omega
 have hb64:(xss.length+1)*i0.bytes≤140737488355328:=by
  rw[hz2];have:=R.small
  calc (xss.length+1)*bytes≤(xss.length+1)*64:=Nat.mul_le_mul_left _ this
   _≤140737488355328:=by omega
 obtain⟨_,hlf,⟨ev,h0⟩|⟨g,cap,cur,ev,hb',hh,hnc,hcm,hcs,htake⟩⟩:=id hown
 · subst ev
   rw[h0]at hb64;have hr:=run_append_nil (P:=Tryz.prog) w TS ty T i0 z R.und hi hz0 ⟨nb,0,none⟩ 1 c x hl hnews (by omega) (by omega) (by omega);rw[hr]at h1;(injection h1 with h1 _);exact .inr ⟨w.heap.size,by rw[←h1];rfl,Nat.le_refl _⟩
 · subst ev
   (have hcs':cur.size=cap*i0.size:=by rw[hz1];exact hcs);(have hlf':xss.flatten.length=xss.length*i0.size:=by rw[hz1];exact hlf);by_cases hroom:xss.length+1≤cap
   · have hfit:xss.length*i0.size+x.length≤cur.size:=by rw[hl,hcs',←Nat.add_mul];exact Nat.mul_le_mul_right _ hroom
     have hr:=run_append_room (P:=Tryz.prog) w TS ty T i0 R.und hi g xss.length cap cur hh ⟨nb,0,none⟩ 1 c x hl hnews hx.2 hroom hfit;rw[hr]at h1;(injection h1 with h1 _);exact .inl (by rw[←h1];rfl)
   · have holds:∀j u,xss.flatten[j]?=some u→w.cell? ((⟨g,0,none⟩:Addr).add j)=some u:=hown.2.cells (g:=g) rfl
     have hr:=run_append_grow (P:=Tryz.prog) w TS ty T i0 z R.und hi hz0 ⟨g,0,none⟩ xss.length cap xss.flatten hlf' holds ⟨nb,0,none⟩ 1 c x hl hnews (by omega) (by omega) (growslice_fits (by omega) hb64);rw[hr]at h1;(injection h1 with h1 _);exact .inr ⟨w.heap.size,by rw[←h1];rfl,Nat.le_refl _⟩
theorem cellsQ_flat(l:List Pl):(l.map encQ).flatten=cellsQ l:=(List.flatMap_def ..).symm
theorem rty_Q:RTy 115 81 2 16:=⟨Tryz.underlying81,⟨_,info_Q,rfl⟩,by decide,by decide⟩
theorem rty_S:RTy 34 80 1 24:=⟨Tryz.underlying80,⟨_,info_S,rfl⟩,by decide,by decide⟩
theorem cells_Q(x:Pl):Cells 2 (encQ x):=⟨rfl,encQ_one x⟩
theorem cells_S(x:Sv):Cells 1 [encS x]:=⟨rfl,fun u hu=>by simp at hu;rw[hu];rfl⟩
theorem flat_S:∀l:List Sv,(l.map fun x=>[encS x]).flatten=l.map encS
 |[]=>rfl
 |x::r=>by rw[List.map_cons,List.flatten_cons,flat_S r];rfl
theorem Only.of_grown{w w':World}{ad:Option Addr}{n c:Nat}(h:w.grownBy w' (Value.slice ad n c).ownBlock):Only (ownB ad) w w':=by
 refine⟨h.os,h.tape,h.output,h.size,fun k hk hn=>h.block k hk fun e=>hn ?_⟩;cases ad with
 |none=>cases e
 |some a=>simp only[Value.ownBlock,Option.some.injEq]at e;simp[ownB,e]
theorem ownB_new{w:World}{ad ad':Option Addr}{n c n' c':Nat}(h:(Value.slice ad' n' c').ownBlock=(Value.slice ad n c).ownBlock∨∃g,(Value.slice ad' n' c').ownBlock=some g∧w.heap.size≤g):∀x∈ownB ad',x∈ownB ad∨w.heap.size≤x:=by
 intro x hx;cases ad' with
 |none=>simp[ownB]at hx
 |some a'=>
  simp[ownB]at hx;rcases h with h|⟨g,h,hg⟩
  · cases ad with
    |none=>cases h
    |some a=>simp only[Value.ownBlock,Option.some.injEq]at h;left;simp[ownB];omega
  · simp only[Value.ownBlock,Option.some.injEq]at h;right;omega
theorem exec_append_q1{o:Oper}{ev:Operand→Value}{w:World}{ad:Option Addr}{n c0:Nat}{l:List Pl}(x:Pl)(nb c:Nat)(s y:Operand)(ho:o.op = .call { callee := .builtin .append,args:=#[s,y],argTypes:=#[81,81] })(hs:ev s = .slice ad n c0)(hy:ev y = .slice (some ⟨nb,0,none⟩) 1 c)
 (hown:QOwn 0 w (.slice ad n c0) l) (hx:TwoQ w nb 0 x) (h63:l.length<1099511627776):
 ∃ad' c' w',(execOp ev o).run Tryz.prog w = .ok (.value (.slice ad' (l.length+1) c')) w'∧QOwn 0 w' (.slice ad' (l.length+1) c') (l++[x])∧Only (ownB ad) w w'∧(∀k∈ownB ad',k∈ownB ad∨w.heap.size≤k):=by
 have hg:GOwn 115 2 0 w (.slice ad n c0) (l.map encQ):=⟨fun y hy=>by obtain⟨z,_,rfl⟩:=List.mem_map.1 hy;exact cells_Q z,by rw[List.length_map,cellsQ_flat];exact hown⟩;obtain⟨v',w',h1,h2,h3,h4⟩:=gappend_run rty_Q hg (Nat.zero_le _) (cells_Q x) (nb:=nb) (fun j u hj=>by
  match j,hj with
  |0,hj=>simp[encQ]at hj;rw[←hj];exact hx.c0
  |1,hj=>simp[encQ]at hj;rw[←hj];exact hx.c1
  |j+2,hj=>simp[encQ]at hj) (by rw[List.length_map];omega) o.type c
 have h5:QOwn 0 w' v' (l++[x]):=by
  have:=h2.2;rw[List.length_append,List.length_map,List.flatten_append,cellsQ_flat,List.length_singleton]at this;unfold QOwn;rw[List.length_append,cellsQ_snoc,List.length_singleton];simpa using this
 obtain⟨ad',c',rfl⟩:=h5.shape;rw[List.length_append,List.length_singleton]at h1 h4 h5;exact⟨ad',c',w',exec_append_run s y _ ho hs hy h1,h5,Only.of_grown h3,ownB_new h4⟩
theorem exec_append_s1{o:Oper}{ev:Operand→Value}{w:World}{ad:Option Addr}{n c0:Nat}{l:List Sv}(x:Sv)(nb c:Nat)(s y:Operand)(ho:o.op = .call { callee := .builtin .append,args:=#[s,y],argTypes:=#[80,80] })(hs:ev s = .slice ad n c0)(hy:ev y = .slice (some ⟨nb,0,none⟩) 1 c)
 (hown:SOwn 0 w (.slice ad n c0) l) (hx:w.cell? ⟨nb,0,none⟩=some (encS x)) (h63:l.length<1099511627776):
 ∃ad' c' w',(execOp ev o).run Tryz.prog w = .ok (.value (.slice ad' (l.length+1) c')) w'∧SOwn 0 w' (.slice ad' (l.length+1) c') (l++[x])∧Only (ownB ad) w w'∧(∀k∈ownB ad',k∈ownB ad∨w.heap.size≤k):=by
 have hg:GOwn 34 1 0 w (.slice ad n c0) (l.map fun x=>[encS x]):=⟨fun y hy=>by obtain⟨z,_,rfl⟩:=List.mem_map.1 hy;exact cells_S z,by rw[List.length_map,flat_S];exact hown⟩;obtain⟨v',w',h1,h2,h3,h4⟩:=gappend_run rty_S hg (Nat.zero_le _) (cells_S x) (nb:=nb) (fun j u hj=>by
  match j,hj with
  |0,hj=>simp at hj;rw[←hj];exact hx
  |j+1,hj=>simp at hj) (by rw[List.length_map];omega) o.type c
 have h5:SOwn 0 w' v' (l++[x]):=by
  have:=h2.2;rw[List.length_append,List.length_map,List.flatten_append,flat_S,List.length_singleton]at this;unfold SOwn;rw[List.length_append,List.map_append,List.length_singleton];simpa using this
 obtain⟨ad',c',rfl⟩:=h5.shape;rw[List.length_append,List.length_singleton]at h1 h4 h5;exact⟨ad',c',w',exec_append_run s y _ ho hs hy h1,h5,Only.of_grown h3,ownB_new h4⟩
theorem run_append_q1{w:World}{ad:Option Addr}{n c0:Nat}{l:List Pl}(x:Pl)(nb c:Nat)(ty:TypeId)(hown:QOwn 0 w (.slice ad n c0) l)(hx:TwoQ w nb 0 x)(h63:l.length<1099511627776):
 ∃ad' c' w',(Builtin.append_ #[81,81] ty #[.slice ad n c0,.slice (some ⟨nb,0,none⟩) 1 c]).run Tryz.prog w = .ok (.slice ad' (l.length+1) c') w'∧QOwn 0 w' (.slice ad' (l.length+1) c') (l++[x])∧Only (ownB ad) w w'∧(∀k∈ownB ad',k∈ownB ad∨w.heap.size≤k):=by
 have hg:GOwn 115 2 0 w (.slice ad n c0) (l.map encQ):=⟨fun y hy=>by obtain⟨z,_,rfl⟩:=List.mem_map.1 hy;exact cells_Q z,by rw[List.length_map,cellsQ_flat];exact hown⟩;obtain⟨v',w',h1,h2,h3,h4⟩:=gappend_run rty_Q hg (Nat.zero_le _) (cells_Q x) (nb:=nb) (fun j u hj=>by
  match j,hj with
  |0,hj=>simp[encQ]at hj;rw[←hj];exact hx.c0
  |1,hj=>simp[encQ]at hj;rw[←hj];exact hx.c1
  |j+2,hj=>simp[encQ]at hj) (by rw[List.length_map];omega) ty c
 have h5:QOwn 0 w' v' (l++[x]):=by
  have:=h2.2;rw[List.length_append,List.length_map,List.flatten_append,cellsQ_flat,List.length_singleton]at this;unfold QOwn;rw[List.length_append,cellsQ_snoc,List.length_singleton];simpa using this
 obtain⟨ad',c',rfl⟩:=h5.shape;rw[List.length_append,List.length_singleton]at h1 h4 h5;exact⟨ad',c',w',h1,h5,Only.of_grown h3,ownB_new h4⟩
theorem run_append_s1{w:World}{ad:Option Addr}{n c0:Nat}{l:List Sv}(x:Sv)(nb c:Nat)(ty:TypeId)(hown:SOwn 0 w (.slice ad n c0) l)(hx:w.cell? ⟨nb,0,none⟩=some (encS x))(h63:l.length<1099511627776):
 ∃ad' c' w',(Builtin.append_ #[80,80] ty #[.slice ad n c0,.slice (some ⟨nb,0,none⟩) 1 c]).run Tryz.prog w = .ok (.slice ad' (l.length+1) c') w'∧SOwn 0 w' (.slice ad' (l.length+1) c') (l++[x])∧Only (ownB ad) w w'∧(∀k∈ownB ad',k∈ownB ad∨w.heap.size≤k):=by
 have hg:GOwn 34 1 0 w (.slice ad n c0) (l.map fun x=>[encS x]):=⟨fun y hy=>by obtain⟨z,_,rfl⟩:=List.mem_map.1 hy;exact cells_S z,by rw[List.length_map,flat_S];exact hown⟩;obtain⟨v',w',h1,h2,h3,h4⟩:=gappend_run rty_S hg (Nat.zero_le _) (cells_S x) (nb:=nb) (fun j u hj=>by
  match j,hj with
  |0,hj=>simp at hj;rw[←hj];exact hx
  |j+1,hj=>simp at hj) (by rw[List.length_map];omega) ty c
 have h5:SOwn 0 w' v' (l++[x]):=by
  have:=h2.2;rw[List.length_append,List.length_map,List.flatten_append,flat_S,List.length_singleton]at this;unfold SOwn;rw[List.length_append,List.map_append,List.length_singleton];simpa using this
 obtain⟨ad',c',rfl⟩:=h5.shape;rw[List.length_append,List.length_singleton]at h1 h4 h5;exact⟨ad',c',w',h1,h5,Only.of_grown h3,ownB_new h4⟩
theorem append_q1L{w:World}{ops:Array Oper}{rest:List Oper}{o:Oper}{a:Act}{Q:Exit→Act→World→Prop}(hgd:o.guard=none)(s y:Operand)(x:Pl)
 (ho:o.op = .call { callee := .builtin .append,args:=#[s,y],argTypes:=#[81,81] }) (nb c:Nat) (ad:Option Addr) (n c0:Nat) (l:List Pl) (hs:a.eval s = .slice ad n c0) (hown:QOwn 0 w (.slice ad n c0) l) (hy:a.eval y = .slice (some ⟨nb,0,none⟩) 1 c) (hx:TwoQ w nb 0 x) (h63:l.length<1099511627776)
 (h:∀ad' c' w',QOwn 0 w' (.slice ad' (l.length+1) c') (l++[x])→Only (ownB ad) w w'→(∀k∈ownB ad',k∈ownB ad∨w.heap.size≤k)→wpList Tryz.prog ops Q rest (a.put o.dst (.slice ad' (l.length+1) c')) w'):wpList Tryz.prog ops Q (o::rest) a w:=by
 obtain⟨ad',c',w',h1,h2,h3,h4⟩:=run_append_q1 x nb c o.type hown hx h63;refine wpList_plain hgd fun _ hK=>?_
 unfold Oper.wp execOp;simp only[ho,resolve,invoke,builtin,Sem.run_bind,Sem.run_pure,Result.andThen_ok,List.map_toArray,List.map_cons,List.map_nil,hs,hy,h1];exact hK _ _ (h ad' c' w' h2 h3 h4)
theorem append_s1L{w:World}{ops:Array Oper}{rest:List Oper}{o:Oper}{a:Act}{Q:Exit→Act→World→Prop}(hgd:o.guard=none)(s y:Operand)(x:Sv)
 (ho:o.op = .call { callee := .builtin .append,args:=#[s,y],argTypes:=#[80,80] }) (nb c:Nat) (ad:Option Addr) (n c0:Nat) (l:List Sv) (hs:a.eval s = .slice ad n c0) (hown:SOwn 0 w (.slice ad n c0) l) (hy:a.eval y = .slice (some ⟨nb,0,none⟩) 1 c) (hx:w.cell? ⟨nb,0,none⟩=some (encS x)) (h63:l.length<1099511627776)
 (h:∀ad' c' w',SOwn 0 w' (.slice ad' (l.length+1) c') (l++[x])→Only (ownB ad) w w'→(∀k∈ownB ad',k∈ownB ad∨w.heap.size≤k)→wpList Tryz.prog ops Q rest (a.put o.dst (.slice ad' (l.length+1) c')) w'):wpList Tryz.prog ops Q (o::rest) a w:=by
 obtain⟨ad',c',w',h1,h2,h3,h4⟩:=run_append_s1 x nb c o.type hown hx h63;refine wpList_plain hgd fun _ hK=>?_
 unfold Oper.wp execOp;simp only[ho,resolve,invoke,builtin,Sem.run_bind,Sem.run_pure,Result.andThen_ok,List.map_toArray,List.map_cons,List.map_nil,hs,hy,h1];exact hK _ _ (h ad' c' w' h2 h3 h4)
theorem one_rowE{P:Program}{md:Region.Mode}{ops:Array Oper}{Q:Exit→Act→World→Prop}{S:World→Prop}{z:Nat}{i m:Nat}{o:Oper}{fuel:Nat}{listed:Array Bool}{tmps:Array Value}{df:List Deferred}{w:World}{p:Option Addr→Nat→World→Prop}(t:Tmp)(hr:Region.ready md ops listed=[i])(ho:ops[i]?=some o)(hd:o.dst=some t)(hw:Region.wanted o (yielded ops tmps)=true)
 (hrun:∃ad c w',(execOp (Act.eval { tmps:=tmps,defers:=df }) o).run P w = .ok (.value (.slice ad m c)) w'∧p ad c w') (h:∀ad c w',p ad c w'→S w'∧wpAnyE P md ops Q S z fuel (listed.setIfInBounds i true) { tmps:=tmps.setIfInBounds t (.slice ad m c),defers:=df } w'):wpAnyE P md ops Q S z (fuel+1) listed { tmps:=tmps,defers:=df } w:=by
 obtain⟨ad,c,w',h1,h2⟩:=hrun;obtain⟨h3,h4⟩:=h ad c w' h2;exact one_valueE t hr ho hd hw h1 h3 h4
end Go.Proofs.YthecngkdmnadoaaGreat
