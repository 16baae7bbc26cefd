import Derived.Test.YtobjpljdgieklaaGreatDoorJ7
import Derived.Test.YtobjpljdgieklaaGreatDoorJ20
import Derived.Test.YtobjpljdgieklaaGreatDoorJ14
import Derived.Test.YtobjpljdgieklaaGreatDoorJ16
import Derived.RangeFuncNested
import Derived.RangeFuncCalls
import Derived.OrdersIn
import Derived.Handy
import Derived.Laws.OwnMore
import Derived.Test.YtobjpljdgieklaaGreatDoorJ12
import Derived.Deep.MidRow
import Derived.Stop.BytesEq
set_option maxRecDepth 100000
namespace Go.Proofs.YtobjpljdgieklaaGreatDoor
section
open Go.RowKit Nums Pm
def zE1(x:Pr):Bool:=zAo x.1.data.toList&&(decide (1≤x.2)&&decide (x.2≤1048576))
def zAu(p:Option Pr):List Pr→Bool
 |[]=>true
 |x::r=>zE1 x&&(zFg p x&&zAu (some x) r)
def zDy(l:List Pr):Bool:=decide (l.length≤4096)&&zAu none l
theorem zR4{l:List Pr}(h:¬l.length≤4096):zDy l=false:=by simp[zDy,h]
theorem zOf{l:List Pr}(h:l.length≤4096):zDy l=zAu (zA4 l 0) (l.drop 0):=by simp[zDy,h,zA4]
theorem zC9{l:List Pr}{k:Nat}{x:Pr}(hx:l[k]?=some x)(h:zE1 x=false):zAu (zA4 l k) (l.drop k)=false:=by rw[drop_at l k x hx,zAu,h];rfl
theorem zT9{l:List Pr}{k:Nat}{x y:Pr}(hx:l[k+1]?=some x)(hy:l[k]?=some y)(h:zAa y.1 x.1=false):zAu (zA4 l (k+1)) (l.drop (k+1))=false:=by
 rw[drop_at l (k+1) x hx,zAu,zA4,hy,zFg,h];simp
theorem zOe{l:List Pr}{x:Pr}(hx:l[0]?=some x)(h:zE1 x=true):zAu (zA4 l 0) (l.drop 0)=zAu (zA4 l 1) (l.drop 1):=by
 rw[drop_at l 0 x hx,zAu,h,zA4,zA4,zFg,hx];rfl
theorem zR3{l:List Pr}{k:Nat}{x y:Pr}(hx:l[k+1]?=some x)(hy:l[k]?=some y)(h:zE1 x=true)(h2:zAa y.1 x.1=true):zAu (zA4 l (k+1)) (l.drop (k+1))=zAu (zA4 l (k+1+1)) (l.drop (k+1+1)):=by
 rw[drop_at l (k+1) x hx,zAu,h,zA4,zA4,hy,zFg,hx,h2];rfl
theorem zUa{l:List Pr}{k:Nat}(h:l.length≤k):zAu (zA4 l k) (l.drop k)=true:=by rw[List.drop_eq_nil_of_le h];rfl
theorem zMq{x:Pr}(h:zAo x.1.data.toList=false):zE1 x=false:=by simp[zE1,h]
theorem zQk{x:Pr}(h:x.2<1):zE1 x=false:=by simp[zE1];intro _ h2;omega
theorem zMr{x:Pr}(h:1048576<x.2):zE1 x=false:=by simp[zE1];omega
theorem zUr{x:Pr}(h:zAo x.1.data.toList=true)(h1:¬x.2<1)(h2:¬1048576<x.2):zE1 x=true:=by simp[zE1,h];omega
end
section
open Go.RowKit
def zOo(l:List Oper):Bool:=l.all fun o=>match o.op with | .defer _=>false|_=>true
section
variable {F:Fence} {n:Nat} {P:Program} {md:Region.Mode} {ops:Array Oper} {Q:Exit→Act→World→Prop}
theorem zOd{row:String}{args:Array Value}{w:World}{R:Value→World→Prop}(h:Rows P row args w R):RowsIn Fence.wide n P row args w R:=
 fun c cs _=>let⟨v,w',r,s⟩:=h c cs;⟨v,w',r,stepsIn_wide.2 s⟩
theorem zTf{o:Oper}{a:Act}{w:World}{K:Act→World→Prop}(h:o.wp P a w K Q):o.wpIn Fence.wide n P a w K Q:=by
 unfold Oper.wp at h;unfold Oper.wpIn;refine⟨fun _ _=>trivial,?_⟩;show o.uponIn Fence.wide n P a K Q ((o.semAt none a.eval).run P w);rw[Oper.semAt_none];generalize (execOp a.eval o).run P w=r at *;cases r with
 |ok x w'=>
  cases x with
  |enter f args=>exact⟨fun h=>by simp[Fence.wide]at h,callsIn_wide.2 h⟩
  |row r args=>exact⟨fun h=>by simp[Fence.wide]at h,zOd h⟩
  |_=>first|exact h|exact h.elim
 |halt x w'=>cases x<;>first|exact h|exact h.elim
theorem zN0{i:Nat}{a:Act}{w:World}{K:Act→World→Prop}(hlo:¬LetsOut Q)(h:wpOp P ops Q i K a w):wpOpIn Fence.wide n P ops Q i K a w:=by
 unfold wpOp at h;unfold wpOpIn;cases ho:ops[i]? with
 |none=>simp only[ho]at h ⊢;exact h
 |some o=>
  simp only[ho]at h ⊢;by_cases hw:Region.wanted o (yielded ops a.tmps)=true
  · rw[if_pos hw]at h ⊢
    rcases h with h|h
    · exact zTf h
    · exact absurd h.2 hlo
  · rw[if_neg hw]at h ⊢
    exact⟨fun _ _=>trivial,h⟩
theorem zD2(hlo:¬LetsOut Q):∀(fuel:Nat) (listed:Array Bool) (a:Act) (w:World),wpAny P md ops Q fuel listed a w→wpAnyIn Fence.wide n P md ops Q fuel listed a w
 |0,_,_,_,h=>h
 |fuel+1,_,_,_,h=>⟨h.1,fun i hi=>wpOpIn_mono (fun a' w' h'=>zD2 hlo fuel _ a' w' h') (zN0 hlo (h.2 i hi))⟩
theorem zL3{o:Oper}{a:Act}{w:World}{K:Act→World→Prop}(lp:Nat)(hro:F.round=none)(hd:∀c,o.op ≠ .defer c)(h:o.wpIn F n P a w K Q):o.wpIn (F.inRound lp) n P a w K Q:=by
 unfold Oper.wpIn at *;refine⟨h.1,?_⟩;have h2:=h.2;rw[hro,Oper.semAt_none]at h2;rw[Oper.semAt_eq _ _ _ hd];generalize (execOp a.eval o).run P w=r at *;cases r with
 |ok x w'=>cases x<;>exact h2
 |halt x w'=>cases x<;>exact h2
theorem zCh(lp:Nat)(hro:F.round=none)(hd:zOo ops.toList=true):∀(fuel:Nat) (listed:Array Bool) (a:Act) (w:World),wpAnyIn F n P md ops Q fuel listed a w→wpAnyIn (F.inRound lp) n P md ops Q fuel listed a w
 |0,_,_,_,h=>h
 |fuel+1,listed,a,w,h=>⟨h.1,fun i hi=>by
  refine wpOpIn_mono (fun a' w' h'=>zCh lp hro hd fuel _ a' w' h') ?_;have h2:=h.2 i hi;unfold wpOpIn at *;cases ho:ops[i]? with
  |none=>simp only[ho]at h2 ⊢;exact h2
  |some o=>
   simp only[ho]at h2 ⊢
   split
   · rename_i hw
     rw[if_pos hw]at h2;refine zL3 lp hro (fun c hc=>?_) h2;have:=List.all_eq_true.1 hd o (by rw[←Array.mem_def];exact Array.mem_of_getElem? ho);rw[hc]at this;cases this
   · rename_i hw
     rw[if_neg hw]at h2;exact h2⟩
theorem zP8{S:World→Prop}{id lp:Nat}{a:Act}{w:World}(k:Nat)(hk:ops.size=k)(hm:P.follows .mixedOrders=true)(hd:zOo ops.toList=true)(hlo:¬LetsOut Q)(hS:S w.drew)(h:S w.drew→wpAnyH P .any ops Q S k (Array.replicate k false) a w.drew):(Code.region id ops true).wpIn (Fence.wide.inRound lp) n P Q a w:=by
 subst hk;exact wpIn_region_any hm (zCh lp rfl hd _ _ _ _ (zD2 hlo _ _ _ _ (wpAny_of_held _ _ _ _ (h hS))))
theorem zT6{S:World→Prop}{id lp:Nat}{a:Act}{w:World}(k z:Nat)(hk:ops.size=k)(hm:P.follows .mixedOrders=true)(hd:zOo ops.toList=true)(hlo:¬LetsOut Q)(h:zBd P .any ops Q S z k (Array.replicate k false) a w.drew):(Code.region id ops true).wpIn (Fence.wide.inRound lp) n P Q a w:=by
 subst hk;exact wpIn_region_any hm (zCh lp rfl hd _ _ _ _ (zD2 hlo _ _ _ _ (zF8 _ _ _ _ h)))
end
theorem Upd.putR{W:World}(l:Nat)(o:Obj):Upd (fun k=>k=l) W (W.putObj l o):=
 ⟨rfl,rfl,rfl,by simp,fun k _ hk=>World.putObj_heap_other hk⟩
def roundB(I:Nat→World→Prop)(d k:Nat)(W:World):Exit→Act→World→Prop
 |.normal,_,W'=>(∃G:Nat→Prop,Upd G W W'∧¬G d∧¬G (d+1))∧I (k+1) W'
 |_,_,_=>False
def SeqB(gf:Nat)(lb:Array Value)(enc:Nat→Array Value)(N:Nat)(T:World→Prop):Prop:=
 ∀(yl:Nat) (J:Nat→World→Prop) (W:World),(∀k W,J k W→T W)→(∀k W,k<N→J k W→YieldAt Fence.wide 0 Tryz.prog yl (enc k) W fun e W'=>e = .returned (.bool true)∧J (k+1) W')→J 0 W →
  Calls Tryz.prog gf (#[.func (.yield yl) #[] #[]]++lb) W fun e W'=>(∃v,e = .returned v)∧J N W'
set_option maxHeartbeats 1000000 in
theorem zTh{g:Operand}{ps:Array Tmp}{assign body:Code}{Q:Exit→Act→World→Prop}{a:Act}{w:World}{gf:Nat}{lb:Array Value}{enc:Nat→Array Value}{N:Nat}{T:World→Prop}
 (hg:a.eval g = .func (.func gf) #[] lb) (eg:∀args w,(callFunc gf args).run Tryz.prog w = .ok (.enter gf args) w) (hseq:SeqB gf lb enc N T) (hps:∀k,ps.size=(enc k).size)
 (I:Nat→World→Prop) (hT:∀k W,I k W→T W) (hI:∀k W W',I k W→Upd (fun j=>j=w.heap.size∨j=w.heap.size+1) W W'→I k W') (h0:I 0 w)
 (hround:∀l k W,k<N→I k W→w.heap.size+1<W.heap.size→assign.wpIn (Fence.wide.inRound l) 0 Tryz.prog (Exit.then (fun a1 W1=>Upd (fun _=>False) W W1∧∀W2,Upd (fun j=>j=w.heap.size+1) W1 W2→body.wpIn (Fence.wide.inRound l) 0 Tryz.prog (roundB I w.heap.size k W2) a1 W2) (fun _ _ _=>False)) { tmps:=(ps.zip (enc k)).foldl (fun t (p,v)=>t.setIfInBounds p v) a.tmps,defers:=[] } W)
 (hdone:∀W,I N W→W.heap[w.heap.size]?=some (.deferred (some []))→Q .normal { a with defers:={ target := .collected w.heap.size,args:=#[] }::a.defers } W):
 (Code.rangeFunc g ps assign body).wp Tryz.prog Q a w:=by
 refine(wpIn_wide (n:=0)).1 (wpIn_rangeFunc ?_);intro fn hfn;rw[Fence.wide_round];obtain⟨rec,hrec⟩:∃rec:LoopState→Option Code→Loop,rec=fun st pe=>{ state:=st,pending:=pe,fn,tmps:=a.tmps,params:=ps,assign,body,defers:=w.heap.size }:=⟨_,rfl⟩
 obtain⟨W1,hW1⟩:∃W1,(w.alloc (.deferred (some []))).alloc (.loop (rec .ready none))=W1:=⟨_,rfl⟩;have hL1:W1.heap[w.heap.size+1]?=some (.loop (rec .ready none)):=by
  rw[←hW1];have:=World.alloc_heap_new (w.alloc (.deferred (some []))) (.loop (rec .ready none));rwa [World.size_alloc]at this
 have hK1:W1.heap[w.heap.size]?=some (.deferred (some [])):=by
  rw[←hW1];exact(Below.heap_alloc _ _ _ (by simp)).trans (World.alloc_heap_new w _)
 have hb1:Below w.heap.size w W1:=by rw[←hW1];exact((Below.refl _ w).alloc (Nat.le_refl _) _).alloc (by simp) _
 let J:Nat→World→Prop:=fun k W=>W.heap[w.heap.size+1]?=some (.loop (rec .ready none))∧W.heap[w.heap.size]?=some (.deferred (some []))∧I k W
 refine⟨w.heap.size+1,[{ target := .collected w.heap.size,args:=#[] }],W1,{ target := .fn (.func gf) lb,args:=#[.func (.yield (w.heap.size+1)) #[] #[]] },W1,gf,
  #[.func (.yield (w.heap.size+1)) #[] #[]]++lb,W1,?_,?_,fun _ _=>trivial,?_,fun h=>by simp[Fence.wide]at h,?_⟩
 · rw[←hW1,hrec];exact run_enterLoop_outer _ _ _ _ _
 · simp only[resolve,hg]
   simp[go_sem]
 · simp[invoke,go_sem,eg]
 · refine callsIn_wide.2 ((hseq (w.heap.size+1) J W1 (fun k W h=>hT k W h.2.2) ?_ ⟨hL1,hK1,hI _ _ _ h0 (Upd.of_below hb1)⟩).mono ?_)
   · rintro k W hk ⟨hr,hd,hi⟩
     have hlt:w.heap.size+1<W.heap.size:=(Array.getElem?_eq_some_iff.1 hr).1;have hy:=run_yield (P:=Tryz.prog) (args:=enc k) hr (by rw[hrec];exact(hps k).symm);rw[hrec]at hy;refine⟨fn,_,assign,body,hy,roundIn_of_wpIn hfn (wpIn_mono (hround (w.heap.size+1) k W hk hi hlt) ?_)⟩;clear hy;intro e0 a0 Wa hp0;cases e0 with
     |exit _=>exact hp0.elim
     |goto _=>exact hp0.elim
     |ret=>exact hp0.elim
     |panic _=>exact hp0.elim
     |outgrown=>exact hp0.elim
     |normal=>
     obtain⟨hu0,hbody⟩:=hp0;have hra:Wa.heap[w.heap.size+1]?=some (.loop (rec .ready none)):=(hu0.block _ hlt id).trans hr;have hda:Wa.heap[w.heap.size]?=some (.deferred (some [])):=(hu0.block _ (by omega) id).trans hd;have hlta:w.heap.size+1<Wa.heap.size:=(Array.getElem?_eq_some_iff.1 hra).1;refine⟨_,run_beginRound hra (by rw[hrec]),?_⟩;have hl2:(Wa.putObj (w.heap.size+1) (.loop { rec .ready none with state := .busy })).heap[w.heap.size+1]?=some (.loop { rec .ready none with state := .busy }):=World.putObj_heap_same hlta;have hk2:(Wa.putObj (w.heap.size+1) (.loop { rec .ready none with state := .busy })).heap[w.heap.size]?=some (.deferred (some [])):=(World.putObj_heap_other (by omega)).trans hda;have hbody2:=hbody _ (Upd.putR (W:=Wa) (w.heap.size+1) (.loop { rec .ready none with state := .busy }));clear hbody;generalize (Wa.putObj (w.heap.size+1) (.loop { rec .ready none with state := .busy }))=Wb at hl2 hk2 hbody2;have hszb:w.heap.size+1<Wb.heap.size:=(Array.getElem?_eq_some_iff.1 hl2).1;refine wpIn_mono hbody2 ?_;rintro e a3 W3 hp;cases e with
     |normal=>
      obtain⟨⟨G,hu3,n2,n1⟩,hi3⟩:=hp;have hl3:=(hu3.block _ hszb n1).trans hl2;have hd3:=(hu3.block _ (by omega) n2).trans hk2;have he:=run_endRound (P:=Tryz.prog) none hl3;rw[hrec]at he;refine⟨_,_,he,rfl,?_,(World.putObj_heap_other (by omega)).trans hd3,hI _ _ _ hi3 ((Upd.putR _ _).mono fun k e => .inr e)⟩;rw[hrec];exact World.putObj_heap_same (Array.getElem?_eq_some_iff.1 hl3).1
     |ret=>exact hp.elim
     |exit id=>exact hp.elim
     |goto t=>exact hp.elim
     |panic ch=>exact hp.elim
     |outgrown=>exact hp.elim
   · rintro e W2 ⟨⟨v,rfl⟩,hr,hd,hi⟩
     refine⟨none,_,by have:=run_endLoop (P:=Tryz.prog) hr (by rw[hrec];simp);rw[hrec]at this;exact this,?_⟩;exact hdone _ (hI _ _ _ hi ((Upd.putR _ _).mono fun k e => .inr e)) ((World.putObj_heap_other (by omega)).trans hd)
end
section
open Go.RowKit Nums Ed
theorem zK6(w:World)(v:Value)(T:TypeId):(w.alloc (.cells #[v] T)).cell? ⟨w.heap.size,0,none⟩=some v:=by simp
def min3(a b c:Int):Int:=if c<(if b<a then b else a)then c else (if b<a then b else a)
theorem zKv(ts:Array TypeId)(ty:TypeId)(k:IntKind)(a b c:Int)(w:World):(Builtin.min_ ts ty #[.int k a,.int k b,.int k c]).run Tryz.prog w = .ok (.int k (min3 a b c)) w:=by
 simp[Builtin.min_,Builtin.min2,min3,Sem.run_pure]
theorem zM9{ρ:Operand→Value}{x y z:Operand}{ts:Array TypeId}{dst:Option Tmp}{ty:TypeId}{pos:String}{af:Array Edge}{g:Option (Nat×Bool)}{w:World}{k:IntKind}{a b c:Int}(hx:ρ x = .int k a)(hy:ρ y = .int k b)(hz:ρ z = .int k c):
 (execOp ρ ⟨dst,.call { callee := .builtin .min,args:=#[x,y,z],argTypes:=ts },ty,pos,af,g⟩).run Tryz.prog w = .ok (.value (.int k (min3 a b c))) w:=by
 unfold execOp;simp only[resolve,invoke,builtin,Sem.run_bind,Sem.run_pure,Result.andThen_ok,List.map_toArray,List.map_cons,List.map_nil,hx,hy,hz,zKv]
theorem zNd{P:Program}{ρ:Operand→Value}{x y:Operand}{t:TypeId}{dst:Option Tmp}{ty:TypeId}{pos:String}{af:Array Edge}{g:Option (Nat×Bool)}{w w':World}{v:Value}(h:(Builtin.append_ #[t,t] ty #[ρ x,ρ y]).run P w = .ok v w'):
 (execOp ρ ⟨dst,.call { callee := .builtin .append,args:=#[x,y],argTypes:=#[t,t] },ty,pos,af,g⟩).run P w = .ok (.value v) w':=by
 unfold execOp;simp only[resolve,invoke,builtin,Sem.run_bind,Sem.run_pure,Result.andThen_ok,List.map_toArray,List.map_cons,List.map_nil,h]
set_option maxHeartbeats 1000000 in
theorem next_any(w:World)(g off a cap capa:Nat)(cs p ys:List Int)(r:Int)(vy:Value)(E:Nat)(hB:IBlk w g cs)(hcap:ys.length<cap)(hl:off+ys.length<cs.length)
 (hA:∀j,j≤ys.length→cs[a+j]?=some (lv p (ys.take j):Int)) (hap:a+ys.length<off∨off+ys.length<a) (hy:RunesAt E w vy ys) (hE:E≤g) (hs:ys.length≤100000) (hps:p.length≤100000):
 Calls Tryz.prog 157 #[.slice (some ⟨g,off,none⟩) 0 cap,.slice (some ⟨g,a,none⟩) (ys.length+1) capa,.int .i32 r,vy] w fun e w'=>e = .returned (.slice (some ⟨g,off,none⟩) (ys.length+1) cap)∧IBlk w' g (lay cs off (dr (p++[r]) ys))∧But g w w':=by
 obtain⟨ady,capy,rfl⟩:=hy.form;obtain⟨n,hn⟩:∃n,n=ys.length:=⟨_,rfl⟩;rw[←hn]at hcap hl hs hap hA hy ⊢;have HN:Hid (n=ys.length):=hn;clear hn;have HA:Hid (∀j,j≤n→cs[a+j]?=some (lv p (ys.take j):Int)):=hA;clear hA;have hc0:w.cell? ⟨g,a,none⟩=some (.int .i64 (p.length:Int)):=by
  have:=HA.out 0 (Nat.zero_le _);rw[List.take_zero,zB8]at this;exact hB.cell this
 have HB:Hid (IBlk w g cs):=hB;have hgl:=hB.lt;clear hB;go_enter Tryz.func157,Tryz.ntmps157;go_wp2_with (at_builtin;refine zRj rfl _ _ _ rfl g off 0 cap _ _ cs ((p.length:Int)+1) rfl rfl rfl HB.out (by omega) (by omega) ?_);intro w1 hI1 hb1;have HI1:Hid (IBlk w1 g (lay cs off ((dr (p++[r]) ys).take 1))):=by
  have e:=zOs (cs:=cs) (L:=[]) (b:=off) (by simp;omega) ((p.length:Int)+1);rw[zVm]at e;simp only[List.length_nil,Nat.add_zero]at e;rw[e]at hI1;rw[zHo _ _ (Nat.zero_le _),List.take_zero,List.take_zero,zB8,List.nil_append];exact(by simpa using hI1:IBlk w1 g (lay cs off [((p++[r]).length:Int)]))
 clear hI1 hc0;go_wp2
 go_loopw [0,21] (fun v i wr=>∃k:Nat,k≤n∧i = .int .i64 k∧v = .slice (some ⟨g,off,none⟩) (k+1) cap∧IBlk wr g (lay cs off ((dr (p++[r]) ys).take (k+1)))∧But g w wr) (fun _ i _=>n-(intOf i).toNat)
 case atStart=>exact⟨0,by omega,rfl,rfl,HI1.out,hb1⟩
 case round=>
  obtain⟨k,hk,rfl,rfl,hI,hbut⟩:=hrel;have HI:Hid (IBlk wr g (lay cs off ((dr (p++[r]) ys).take (k+1)))):=hI;clear hI;by_cases hlt:k<n
  · have hlen:Hid (((dr (p++[r]) ys).take (k+1)).length=k+1):=zKm _ _ (by have:=HN.out;omega)
    have hcl:Hid ((lay cs off ((dr (p++[r]) ys).take (k+1))).length=cs.length):=zLg (by rw[hlen.out];omega);(have hky:k<ys.length:=by have:=HN.out;omega);obtain⟨s,hs'⟩:∃s,ys[k]?=some s:=⟨_,List.getElem?_eq_getElem hky⟩;have HS:Hid (ys[k]?=some s):=hs';clear hs';obtain⟨gy,offy,rfl,hgy,hcy⟩:=(hy.below (hbut.below hE (by omega))).at HS.out;have hA0:wr.cell? ⟨g,a+k,none⟩=some (.int .i64 (lv p (ys.take k):Int)):=HI.out.cell (by rw[zVl (by rw[hlen.out];omega) (by rw[hlen.out];omega)];exact HA.out k (by omega));have hA1:wr.cell? ⟨g,a+(k+1),none⟩=some (.int .i64 (lv p (ys.take (k+1)):Int)):=HI.out.cell (by rw[zVl (by rw[hlen.out];omega) (by rw[hlen.out];omega)];exact HA.out (k+1) (by omega));have hR0:wr.cell? ⟨g,off+k,none⟩=some (.int .i64 (lv (p++[r]) (ys.take k):Int)):=HI.out.cell (by rw[zVn (by rw[hlen.out];omega) (by rw[hlen.out];omega),List.getElem?_take,if_pos (by omega),zEz _ _ (by omega)]);have b0:=zSq p ys k;have b1:=zSq p ys (k+1);have b2:=zSq (p++[r]) ys k;rw[List.length_append,List.length_singleton,←HN.out]at b2;rw[←HN.out]at b0 b1;have HNX:Hid _:=zWr p ys r HS.out;generalize hd0:lv p (ys.take k)=d0 at *;generalize hd1:lv p (ys.take (k+1))=d1 at *;generalize hd2:lv (p++[r]) (ys.take k)=d2 at *;clear hd0 hd1 hd2;obtain⟨q,hq⟩:∃q,q=k+1:=⟨_,rfl⟩;rw[←hq]at hA1;(have hwq:IntKind.i64.wrap ((k:Int)+1)=(q:Int):=by rw[IntKind.wrap_i64];omega);(have hqn:(q:Int)<(n:Int)+1:=by omega);(have hq0:(0:Int)≤(q:Int):=by omega);(have hkn:(k:Int)<(k:Int)+1:=by omega);have hqt:(q:Int).toNat=q:=rfl;(have hwd1:IntKind.i64.wrap ((d1:Int)+1)=(d1:Int)+1:=by rw[IntKind.wrap_i64];omega);(have hwd2:IntKind.i64.wrap ((d2:Int)+1)=(d2:Int)+1:=by rw[IntKind.wrap_i64];omega);have HQ:Hid (q=k+1):=hq;clear hq;obtain⟨d3,hd3⟩:∃d3,d3=lv (p++[r]) (ys.take (k+1)):=⟨_,rfl⟩;rw[←hd3]at HNX;have HD3:Hid (d3=lv (p++[r]) (ys.take (k+1))):=hd3;clear hd3;have hS0:wr.drew.cell? ⟨g,a+q,none⟩=some (.int .i64 (d1:Int))∧wr.drew.cell? ⟨g,off+k,none⟩=some (.int .i64 (d2:Int)):=⟨hA1,hR0⟩;obtain⟨W4,hW4⟩:∃W4,W4=wr.drew.alloc (.cells #[.int .i64 (d3:Int)] 3):=⟨_,rfl⟩;(have hI4:IBlk W4 g (lay cs off ((dr (p++[r]) ys).take (k+1))):=by rw[hW4];exact IBlk.alloc (w:=wr.drew) HI.out _);have hS4:W4.cell? ⟨g,a+q,none⟩=some (.int .i64 (d1:Int))∧W4.cell? ⟨g,off+k,none⟩=some (.int .i64 (d2:Int)):=by
     (have hb:Below wr.drew.heap.size wr.drew W4:=by rw[hW4];exact(Below.refl _ _).alloc (Nat.le_refl _) _);have hlt':g<wr.drew.heap.size:=HI.out.lt;exact⟨(hb.cell (p:=⟨g,a+q,none⟩) hlt').trans hS0.1,(hb.cell (p:=⟨g,off+k,none⟩) hlt').trans hS0.2⟩
    have hap4:=zIn (x:=(d3:Int)) (nb:=wr.drew.heap.size) (c:=1) (n:=k+1) (cap:=cap) (off:=off) hI4 (by rw[hW4];exact zK6 wr.drew _ _) (by omega) (by rw[hcl.out];omega) 118;obtain⟨W5,hW5⟩:∃W5,W5=W4.setCell ⟨g,off+(k+1),none⟩ (.int .i64 (d3:Int)):=⟨_,rfl⟩;rw[←hW5]at hap4;have HAP:Hid ((Builtin.append_ #[118,118] 118 #[.slice (some ⟨g,off,none⟩) (k+1) cap,.slice (some ⟨wr.drew.heap.size,0,none⟩) 1 1]).run Tryz.prog W4 = .ok (.slice (some ⟨g,off,none⟩) (k+1+1) cap) W5):=hap4;have hS5:W5.cell? ⟨g,a+q,none⟩=some (.int .i64 (d1:Int))∧W5.cell? ⟨g,off+k,none⟩=some (.int .i64 (d2:Int)):=by
     rw[hW5];refine⟨?_,?_⟩
     · rw[World.cell?_setCell_other _ _ _ _ (by intro e;have h2:off+(k+1)=a+q:=congrArg Addr.off e;have:=HQ.out;omega)];exact hS4.1
     · rw[World.cell?_setCell_other _ _ _ _ (by simp)];exact hS4.2
    have HB5:Hid (But g wr W5):=by
     show But g wr W5;rw[hW5];refine But.setCell ?_ _ _;rw[hW4];exact((show But g wr wr.drew from⟨rfl,rfl,rfl,Nat.le_refl _,fun _ _ _=>rfl⟩).alloc _)
    have HI5:Hid (IBlk W5 g (lay cs off ((dr (p++[r]) ys).take (k+1+1)))):=by
     show IBlk W5 g (lay cs off ((dr (p++[r]) ys).take (k+1+1)));have e:=zOs (cs:=cs) (L:=(dr (p++[r]) ys).take (k+1)) (b:=off) (by rw[hlen.out];omega) (d3:Int);rw[hlen.out]at e;rw[zHo (p++[r]) ys (k:=k+1) (by have:=HN.out;omega),←HD3.out,←e,hW5];exact hI4.set _ _
    have HW5:Hid (W5=W4.setCell ⟨g,off+(k+1),none⟩ (.int .i64 (d3:Int))):=hW5;clear hW5 hI4 hap4;by_cases hsr:s=r
    · subst hsr
      have HM:Hid (min3 (d0:Int) ((d1:Int)+1) ((d2:Int)+1)=(d3:Int)):=by
       have:=HNX.out;rw[if_pos rfl]at this;unfold Hid min3
       split<;>split at*<;> omega
      go_wp2;refine zAe (S:=fun W=>W.cell? ⟨g,a+q,none⟩=some (.int .i64 (d1:Int))∧W.cell? ⟨g,off+k,none⟩=some (.int .i64 (d2:Int))) 17 rfl zAr hS0 (fun _=>?_);refine tq4 id 0 35 1 36 2 37 3 38 ?_;simp only[sZa,sZb,sZc];refine tq4 id 4 39 5 40 6 41 7 42 ?_;simp only[sZa,sZb,sZc];refine tq4 id 8 43 9 44 10 45 11 46 ?_;simp only[sZa,sZb,sZc];refine tq id 12 47 ?_;simp only[sZa,sZb,sZc];refine zAp (i:=13) (v := .int .i64 (d3:Int)) (w':=wr.drew) 48 (by kernel_rfl) rfl rfl (by rfl) ((zM9 rfl rfl rfl).trans (by rw[HM.out])) hS0 (fun _=>?_);simp only[sZa,sZb,sZc];refine zAp (i:=14) (v := .slice (some ⟨wr.drew.heap.size,0,none⟩) 1 1) (w':=W4) 49 (by kernel_rfl) rfl rfl (by rfl) (by rw[hW4];go_simp;first|done|exact rfl) hS4 (fun _=>?_);simp only[sZa,sZb,sZc];refine zAp (i:=15) (v := .slice (some ⟨g,off,none⟩) (k+1+1) cap) (w':=W5) 50 (by kernel_rfl) rfl rfl (by rfl) (zNd HAP.out) hS5 (fun _=>?_);simp only[sZa,sZb,sZc];refine zAp (i:=16) (v := .slice (some ⟨g,off,none⟩) (k+1+1) cap) (w':=W5) 0 (by kernel_rfl) rfl rfl (by rfl) (by kernel_rfl) hS5 (fun _=>?_);simp only[List.setIfInBounds_toArray,List.set_cons_zero];refine wpAnyH_done (by kernel_rfl) ?_ _;clear HAP hS0 hS4 hS5 hA0 hA1 hR0 hcy HM hW4 HW5;go_wp2
      go_roundw
      (case rel=>exact⟨k+1,by omega,by rw[HQ.out],rfl,HI5.out,hbut.trans HB5.out⟩);case measure=>simp[intOf];have:=HQ.out;omega
    · have hsb:(s != r)=true:=by simpa using hsr
      (have hwd0:IntKind.i64.wrap ((d0:Int)+1)=(d0:Int)+1:=by rw[IntKind.wrap_i64];omega);have HM:Hid (min3 ((d0:Int)+1) ((d1:Int)+1) ((d2:Int)+1)=(d3:Int)):=by
       have:=HNX.out;rw[if_neg hsr]at this;unfold Hid min3
       split<;>split at*<;> omega
      clear hsr;go_wp2;refine zAe (S:=fun W=>W.cell? ⟨g,a+q,none⟩=some (.int .i64 (d1:Int))∧W.cell? ⟨g,off+k,none⟩=some (.int .i64 (d2:Int))) 17 rfl zAr hS0 (fun _=>?_);refine tq4 id 0 35 1 36 2 37 3 38 ?_;simp only[sZa,sZb,sZc];refine tq4 id 4 39 5 40 6 41 7 42 ?_;simp only[sZa,sZb,sZc];refine tq4 id 8 43 9 44 10 45 11 46 ?_;simp only[sZa,sZb,sZc];refine tq id 12 47 ?_;simp only[sZa,sZb,sZc];refine zAp (i:=13) (v := .int .i64 (d3:Int)) (w':=wr.drew) 48 (by kernel_rfl) rfl rfl (by rfl) ((zM9 rfl rfl rfl).trans (by rw[HM.out])) hS0 (fun _=>?_);simp only[sZa,sZb,sZc];refine zAp (i:=14) (v := .slice (some ⟨wr.drew.heap.size,0,none⟩) 1 1) (w':=W4) 49 (by kernel_rfl) rfl rfl (by rfl) (by rw[hW4];go_simp;first|done|exact rfl) hS4 (fun _=>?_);simp only[sZa,sZb,sZc];refine zAp (i:=15) (v := .slice (some ⟨g,off,none⟩) (k+1+1) cap) (w':=W5) 50 (by kernel_rfl) rfl rfl (by rfl) (zNd HAP.out) hS5 (fun _=>?_);simp only[sZa,sZb,sZc];refine zAp (i:=16) (v := .slice (some ⟨g,off,none⟩) (k+1+1) cap) (w':=W5) 0 (by kernel_rfl) rfl rfl (by rfl) (by kernel_rfl) hS5 (fun _=>?_);simp only[List.setIfInBounds_toArray,List.set_cons_zero];refine wpAnyH_done (by kernel_rfl) ?_ _;clear HAP hS0 hS4 hS5 hA0 hA1 hR0 hcy HM hW4 HW5;go_wp2
      go_roundw
      (case rel=>exact⟨k+1,by omega,by rw[HQ.out],rfl,HI5.out,hbut.trans HB5.out⟩);case measure=>simp[intOf];have:=HQ.out;omega
  · obtain rfl:k=n:=by omega
    go_wp2;go_ret;refine⟨rfl,?_,hbut⟩;have:=HI.out
    rwa [HN.out,List.take_of_length_le (by rw[zDz];omega)]at this
end
section
open Go.RowKit Nums Ed
set_option maxHeartbeats 1000000 in
theorem zQc(s:ByteArray)(w:World)(ht:Tabs w)(hm:s.size≤9223372036854775807):
 Calls Tryz.prog 177 #[.string s] w fun e w'=>∃v f,e = .returned (.tuple #[v,.bool f])∧Below w.heap.size w w' ∧
  ((f=false∧rsE s.data.toList=none)∨(f=true∧∃xs,rsE s.data.toList=some xs∧Made w.heap.size w' v xs)):=by
 by_cases hlen:4096<s.size
 · have HF:Hid (rsE s.data.toList=none):=rsE_far (by rw[zAd];exact hlen)
   go_enter Tryz.func177,Tryz.ntmps177;go_wp2;go_ret2;exact⟨_,_,rfl,Below.refl _ _,.inl ⟨rfl,HF.out⟩⟩
 · have HR:Hid (Room s.data.toList):=zCz (by rw[zAd];omega)
   go_enter Tryz.func177,Tryz.ntmps177;go_upto_region 4 with(go_at_call 71;refine(zF4 s _ ht (by omega) HR.out).mono ?_;rintro e w1 ⟨v,hb1,⟨hn,rfl,rfl⟩|⟨xs,hsome,rfl,hmade⟩⟩)
   · have HF:Hid (rsE s.data.toList=none):=zG4 hn
     clear hn;go_wp2;go_returns;exact⟨_,_,rfl,hb1,.inl ⟨rfl,HF.out⟩⟩
   · obtain⟨ad,cap,rfl⟩:=hmade.runesE.form
     by_cases hx:xs.length≤1024
     · have HF:Hid (rsE s.data.toList=some xs):=zFe hsome hx
       clear hsome;go_wp2;go_returns;exact⟨_,_,rfl,hb1,.inr ⟨by simp;omega,xs,HF.out,hmade⟩⟩
     · have HF:Hid (rsE s.data.toList=none):=zG5 hsome hx
       clear hsome;go_wp2;go_returns;exact⟨_,_,rfl,hb1,.inl ⟨by simp;omega,HF.out⟩⟩
def zRp(w w':World)(a b:List UInt8)(v u:Value)(f:Bool):Prop:=
 Below w.heap.size w w'∧((f=false∧dsE a b=none)∨(f=true∧∃xs ys,rsE a=some xs∧rsE b=some ys∧Made w.heap.size w' v xs∧Made w.heap.size w' u ys))
theorem Made.mono{B B':Nat}{w:World}{v:Value}{xs:List Int}(h:Made B w v xs)(hB:B'≤B):Made B' w v xs:=by
 obtain⟨hl,hn|⟨g,cap,cur,rfl,h1,h2⟩⟩:=h
 · exact⟨hl,.inl hn⟩
 · exact⟨hl,.inr ⟨g,cap,cur,rfl,by omega,h2⟩⟩
set_option maxHeartbeats 1000000 in
theorem both_any(a b:ByteArray)(w:World)(ht:Tabs w)(ha:a.size≤9223372036854775807)(hb:b.size≤9223372036854775807):
 Calls Tryz.prog 154 #[.string a,.string b] w fun e w'=>∃v u f,e = .returned (.tuple #[v,u,.bool f])∧zRp w w' a.data.toList b.data.toList v u f:=by
 go_enter Tryz.func154,Tryz.ntmps154;go_upto_region 2 with(go_at_call 177;refine(zQc a _ ht ha).mono ?_;rintro e w1 ⟨v,f,rfl,hb1,hcase⟩)
 have ht1:Tabs w1:=ht.below hb1;go_upto_region 3 with(go_at_call 177;refine(zQc b _ ht1 hb).mono ?_;rintro e w2 ⟨u,f2,rfl,hb2,hcase2⟩)
 have hb12:Below w.heap.size w w2:=hb1.trans (hb2.mono hb1.size);have HF:Hid (zRp w w2 a.data.toList b.data.toList v u (f&&f2)):=by
  refine⟨hb12,?_⟩;rcases hcase with⟨rfl,h1⟩|⟨rfl,xs,h1,m1⟩
  · exact .inl ⟨rfl,zLn h1⟩
  · rcases hcase2 with⟨rfl,h2⟩|⟨rfl,ys,h2,m2⟩
    · exact .inl ⟨rfl,zIe h2⟩
    · exact .inr ⟨rfl,xs,ys,h1,h2,m1.below hb2,m2.mono hb1.size⟩
 clear hcase hcase2 hb12;cases f
 all_goals
  go_wp2;go_returns;exact⟨_,_,_,rfl,HF.out⟩
end
section
open Go.RowKit Nums Ed
def LBlk(w:World)(gl:Nat)(vs:List Value):Prop:=w.heap[gl]?=some (.cells vs.toArray 118 (0,0))
theorem LBlk.lt{w:World}{g:Nat}{vs:List Value}(h:LBlk w g vs):g<w.heap.size:=(Array.getElem?_eq_some_iff.1 h).1
theorem LBlk.cell{w:World}{g k:Nat}{vs:List Value}{x:Value}(h:LBlk w g vs)(hk:vs[k]?=some x):w.cell? ⟨g,k,none⟩=some x:=by
 unfold LBlk at h;simp only[World.cell?,h];simp[hk]
theorem LBlk.frozen{w:World}{g:Nat}{vs:List Value}(h:LBlk w g vs)(k:Nat):w.frozen? ⟨g,k,none⟩=false:=by
 unfold LBlk at h;simp only[World.frozen?,h];simp
theorem LBlk.set{w:World}{g:Nat}{vs:List Value}(h:LBlk w g vs)(k:Nat)(x:Value):LBlk (w.setCell ⟨g,k,none⟩ x) g (vs.set k x):=by
 unfold LBlk at h ⊢;simp only[World.setCell,Array.getElem?_modify,h];simp
def zHt(g W n k:Nat):List Value:=(List.range n).map fun i=>if i<k then .slice (some ⟨g,i*W,none⟩) 0 W else .slice none 0 0
theorem zD5(g W n k:Nat):(zHt g W n k).length=n:=by simp[zHt]
theorem zC8(g W n k:Nat){i:Nat}(h:i<n):(zHt g W n k)[i]?=some (if i<k then .slice (some ⟨g,i*W,none⟩) 0 W else .slice none 0 0):=by
 unfold zHt;rw[List.getElem?_map,List.getElem?_range h];rfl
theorem zT4(g W n k:Nat):(zHt g W n k).set k (.slice (some ⟨g,k*W,none⟩) 0 W)=zHt g W n (k+1):=by
 apply List.ext_getElem?;intro i;rw[List.getElem?_set];by_cases hi:i<n
 · rw[zC8 _ _ _ _ hi,zC8 _ _ _ _ hi,zD5]
   by_cases e:k=i
   · subst e;rw[if_pos rfl,if_pos hi,if_pos (by omega)]
   · rw[if_neg e]
     by_cases c:i<k
     · rw[if_pos c,if_pos (by omega)]
     · rw[if_neg c,if_neg (by omega)]
 · rw[List.getElem?_eq_none (by rw[zD5];omega),List.getElem?_eq_none (by rw[zD5];omega),zD5]
   split
   · rw[if_neg (by omega)]
   · rfl
theorem zR2(g W n:Nat):zHt g W n 0=List.replicate n (.slice none 0 0):=by
 apply List.ext_getElem?;intro i;by_cases hi:i<n
 · rw[zC8 _ _ _ _ hi,if_neg (by omega),List.getElem?_replicate,if_pos hi]
 · rw[List.getElem?_eq_none (by rw[zD5];omega),List.getElem?_eq_none (by simp;omega)]
theorem zV2:(Tryz.prog.info? 118).map (fun i=>(i.zero,i.size,i.bytes))=some (some (.slice none 0 0),1,24):=by kernel_rfl
theorem zMo{w:World}{B g n:Nat}{T:TypeId}{xs:List Value}(h:w.ownsRow B T 1 (.slice (some ⟨g,0,none⟩) n n) n xs):w.heap[g]?=some (.cells xs.toArray T (0,0)):=by
 obtain⟨hl,⟨e,_⟩|⟨g',cap,cur,e,h1,hg,h2,h3,h4,h5⟩⟩:=h
 · cases e
 · simp only[Value.slice.injEq,Option.some.injEq,Addr.mk.injEq]at e
   obtain⟨⟨rfl,_,_⟩,_,rfl⟩:=e;rw[hg];have:cur=xs.toArray:=by
    rw[←h5,List.take_of_length_le (by rw[Array.length_toList,h4];omega)]
   rw[this]
theorem zU8(N:Nat):(madeCells (Value.int .i64 0).cells (N*1)).toList=(List.replicate N (0:Int)).map (Value.int .i64):=by
 rw[show(Value.int .i64 0).cells=#[.int .i64 0]from rfl,Nat.mul_one,toList_madeCells_one,List.map_replicate]
theorem zOq(N:Nat):(madeCells (Value.slice none 0 0).cells (N*1)).toList=List.replicate N (Value.slice none 0 0):=by
 rw[show(Value.slice none 0 0).cells=#[.slice none 0 0]from rfl,Nat.mul_one,toList_madeCells_one]
set_option maxHeartbeats 1000000 in
theorem rows_any(n W:Nat)(w:World)(hn1:1≤n)(hW1:1≤W)(hn:n≤100000)(hW:W≤100000):
 Calls Tryz.prog 155 #[.int .i64 n,.int .i64 W] w fun e w'=>∃g gl,e = .returned (.slice (some ⟨gl,0,none⟩) n n)∧LBlk w' gl (zHt g W n n)∧IBlk w' g (List.replicate (n*W) 0)∧Below w.heap.size w w'∧w.heap.size≤g∧w.heap.size≤gl∧gl≠g:=by
 obtain⟨i0,hi,hz0,hz1,hz2⟩:=info_parts zOw;obtain⟨i1,hi1,hy0,hy1,hy2⟩:=info_parts zV2;obtain⟨N,hN⟩:∃N,N=n*W:=⟨_,rfl⟩;have hNb:N≤10000000000:=by rw[hN];exact Nat.le_trans (Nat.mul_le_mul hn hW) (by decide)
 have hwN:IntKind.i64.wrap ((n:Int)*(W:Int))=(N:Int):=by rw[←Int.natCast_mul,←hN,IntKind.wrap_i64];omega
 have HN:Hid (N=n*W):=hN;rw[←hN];clear hN;go_enter Tryz.func155,Tryz.ntmps155;go_upto_region 2 with(at_make;refine wpList_make_full _ rfl _ _ 118 rfl w.heap.size 3 i0 (.int .i64 0) 1 Tryz.underlying118 hi hz0 hz1 _ _ _ _ N rfl rfl rfl rfl (by rw[hz2];omega) (by unfold maxLen;omega) (Nat.le_refl _) ?_;intro w1 hown1 hgrow1)
 have hI1:IBlk w1 w.heap.size (List.replicate N 0):=by
  have:=zMo hown1;unfold IBlk;rw[this,zU8]
 have hs1:=hgrow1.size;have hb1:Below w.heap.size w w1:=(Below.refl _ w).grown hgrow1 (Nat.le_refl _) (fun k hk=>by cases hk);clear hown1 hgrow1;obtain⟨g,hg⟩:∃g,g=w.heap.size:=⟨_,rfl⟩;rw[←hg]at hI1;simp only[←hg];have HG:Hid (g=w.heap.size):=hg;have hgl1:=hI1.lt;clear hg;have HI1:Hid (IBlk w1 g (List.replicate N 0)):=hI1;clear hI1;go_upto_region 3 with(at_make;refine wpList_make_full _ rfl _ _ 232 rfl w1.heap.size 118 i1 (.slice none 0 0) 1 Tryz.underlying232 hi1 hy0 hy1 _ _ _ _ n rfl rfl rfl rfl (by rw[hy2];omega) (by unfold maxLen;omega) (Nat.le_refl _) ?_;intro w2 hown2 hgrow2)
 have hL2:LBlk w2 w1.heap.size (zHt g W n 0):=by
  have:=zMo hown2;unfold LBlk;rw[this,zOq,zR2]
 have hb2:Below w1.heap.size w1 w2:=(Below.refl _ w1).grown hgrow2 (Nat.le_refl _) (fun k hk=>by cases hk);have hI2:IBlk w2 g (List.replicate N 0):=HI1.out.same (hb2.block g hgl1);clear hown2 hgrow2 HI1;obtain⟨gl,hgl⟩:∃gl,gl=w1.heap.size:=⟨_,rfl⟩;rw[←hgl]at hL2;simp only[←hgl];have HGL:Hid (gl=w1.heap.size):=hgl;have hgne:gl≠g:=by omega
 have hb02:Below w.heap.size w w2:=hb1.trans (hb2.mono hb1.size);clear hgl hb1 hb2;go_wp2
 go_loopw [17] (fun i wr=>∃k:Nat,k≤n∧i = .int .i64 k∧LBlk wr gl (zHt g W n k)∧IBlk wr g (List.replicate N 0)∧Below w.heap.size w wr) (fun i _=>n-(intOf i).toNat)
 case atStart=>exact⟨0,by omega,rfl,hL2,hI2,hb02⟩
 case round=>
  obtain⟨k,hk,rfl,hL,hI,hbel⟩:=hrel;by_cases hlt:k<n
  · have hc:wr.cell? ⟨gl,k,none⟩=some (.slice none 0 0):=hL.cell (by rw[zC8 _ _ _ _ hlt,if_neg (by omega)])
    have hf:=hL.frozen k;obtain⟨m,hm⟩:∃m,m=k*W:=⟨_,rfl⟩;have hmN:m+W≤N:=by
     rw[hm,HN.out];have:=Nat.mul_le_mul_right W (show k+1≤n from hlt);rw[Nat.add_mul]at this;omega
    (have hwm:IntKind.i64.wrap ((k:Int)*(W:Int))=(m:Int):=by rw[←Int.natCast_mul,←hm,IntKind.wrap_i64];omega);have HL:Hid (LBlk (wr.setCell ⟨gl,k,none⟩ (.slice (some ⟨g,m,none⟩) 0 W)) gl (zHt g W n (k+1))):=by
     have:=hL.set k (.slice (some ⟨g,m,none⟩) 0 W);rw[hm,zT4]at this;rw[hm];exact this
    have HI:Hid (IBlk (wr.setCell ⟨gl,k,none⟩ (.slice (some ⟨g,m,none⟩) 0 W)) g (List.replicate N 0)):=hI.same (Below.heap_setCell _ _ _ _ (fun e=>hgne e.symm));have HB:Hid (Below w.heap.size w (wr.setCell ⟨gl,k,none⟩ (.slice (some ⟨g,m,none⟩) 0 W))):=hbel.setCell (by show w.heap.size≤gl;have:=HG.out;have:=HGL.out;omega) _;clear hL hI hm;go_wp2
    go_roundw
    (case rel=>exact⟨k+1,by omega,by go_num,HL.out,HI.out,HB.out⟩);case measure=>simp[intOf];omega
  · obtain rfl:k=n:=by omega
    go_wp2;go_ret;exact⟨g,gl,rfl,hL,hI,hbel,by have:=HG.out;omega,by have:=HG.out;have:=HGL.out;omega,hgne⟩
end
section
open Go.RowKit Nums Ed
set_option maxHeartbeats 1000000 in
theorem zNx(a b:ByteArray)(w:World)(ht:Tabs w)(ha:a.size≤9223372036854775807)(hb:b.size≤9223372036854775807):
 Calls Tryz.prog 122 #[.string a,.string b] w fun e w'=>e = .returned (dsV (dsE a.data.toList b.data.toList))∧Below w.heap.size w w':=by
 go_enter Tryz.func122,Tryz.ntmps122;go_upto_region 2 with(go_at_call 154;refine(both_any a b _ ht ha hb).mono ?_;rintro e w1 ⟨vx,vy,f,rfl,hbo⟩)
 obtain⟨hb1,⟨rfl,hno⟩|⟨rfl,xs,ys,h1,h2,m1,m2⟩⟩:=hbo
 · have HF:Hid (dsE a.data.toList b.data.toList=none):=hno
   clear hno;go_wp2;go_ret2;exact⟨by rw[HF.out];rfl,hb1⟩
 have HF:Hid (dsE a.data.toList b.data.toList=some (lv xs ys)):=zLm h1 h2;have hxl:=(zT3 h1).2;have hyl:=(zT3 h2).2;clear h1 h2;have HX:Hid (RunesAt w1.heap.size w1 vx xs):=m1.runesE;have HY:Hid (RunesAt w1.heap.size w1 vy ys):=m2.runesE;clear m1 m2;obtain⟨adx,capx,rfl⟩:=HX.out.form;obtain⟨ady,capy,rfl⟩:=HY.out.form;obtain⟨W,hW⟩:∃W,W=ys.length+1:=⟨_,rfl⟩;have hwW:IntKind.i64.wrap ((ys.length:Int)+1)=(W:Int):=by rw[IntKind.wrap_i64];omega
 have HW:Hid (W=ys.length+1):=hW;have hW1:1≤W:=by omega
 have hW2:W≤2000:=by omega
 clear hW;go_upto_region 5 with(go_at_call 155;refine(rows_any 2 W _ (by omega) hW1 (by omega) (by omega)).mono ?_;rintro e w2 ⟨g,gl,rfl,hL,hI,hb2,hg1,hg2,hgne⟩)
 have hL0:w2.drew.cell? ⟨gl,0,none⟩=some (.slice (some ⟨g,0,none⟩) 0 W):=hL.cell (by rw[zC8 _ _ _ _ (by omega)];simp);have hL1:w2.drew.cell? ⟨gl,1,none⟩=some (.slice (some ⟨g,W,none⟩) 0 W):=hL.cell (by rw[zC8 _ _ _ _ (by omega)];simp);have hS0:w2.drew.cell? ⟨gl,0,none⟩=some (.slice (some ⟨g,0,none⟩) 0 W)∧w2.drew.cell? ⟨gl,1,none⟩=some (.slice (some ⟨g,W,none⟩) 0 W):=⟨hL0,hL1⟩;have HST:=zTv w2.drew g 0 W _ ys (show IBlk w2.drew g _ from hI) (by have:=HW.out;omega) (by simp;have:=HW.out;omega) (by omega);have hgll:gl<w2.drew.heap.size:=hL.lt;have hgl2:g<w2.drew.heap.size:=hI.lt;refine zAe (S:=fun W'=>W'.cell? ⟨gl,0,none⟩=some (.slice (some ⟨g,0,none⟩) 0 W)∧W'.cell? ⟨gl,1,none⟩=some (.slice (some ⟨g,W,none⟩) 0 W)) 11 rfl zAr hS0 (fun _=>?_);refine tq4 id 0 27 1 28 2 29 3 30 ?_;simp only[sZa,sZb,sZc];refine tq4 id 4 31 6 33 7 34 8 35 ?_;simp only[sZa,sZb,sZc];refine zAh (i:=5) (w0:=w2.drew) 32 156 #[.slice (some ⟨g,0,none⟩) 0 W,.int .i64 ys.length] (by kernel_rfl) rfl rfl (by rfl) (by kernel_rfl) ?_;refine HST.mono ?_;rintro e w3 ⟨rfl,hI3,hb3⟩;have hS3:w3.cell? ⟨gl,0,none⟩=some (.slice (some ⟨g,0,none⟩) 0 W)∧w3.cell? ⟨gl,1,none⟩=some (.slice (some ⟨g,W,none⟩) 0 W):=by
  have e:=hb3.block gl hgll hgne;exact⟨(World.cell?_of_block (a:=⟨gl,0,none⟩) e).trans hS0.1,(World.cell?_of_block (a:=⟨gl,1,none⟩) e).trans hS0.2⟩
 refine⟨_,rfl,hS3,fun _=>?_⟩;simp only[sZa,sZb,sZc];refine zAp (i:=9) (v := .slice (some ⟨g,0,none⟩) (ys.length+1) W) (w':=w3) 10 (by kernel_rfl) rfl rfl (by rfl) (by kernel_rfl) hS3 (fun _=>?_);simp only[sZa,sZb,sZc];refine zAp (i:=10) (v := .slice (some ⟨g,W,none⟩) 0 W) (w':=w3) 11 (by kernel_rfl) rfl rfl (by rfl) (by kernel_rfl) hS3 (fun _=>?_);simp only[sZa,sZb,sZc];refine wpAnyH_done (by kernel_rfl) ?_ _;have hE3:Below w1.heap.size w1 w3:=by
  have h:=hb3.below (B:=w1.heap.size) hg1 hb2.size;exact⟨h.os.trans hb2.os,h.tape.trans hb2.tape,h.output.trans hb2.output,Nat.le_trans hb2.size h.size,fun k hk=>(h.block k hk).trans (hb2.block k hk)⟩
 have HI3:Hid (IBlk w3 g (lay (List.replicate (2*W) 0) 0 (dr [] ys))):=hI3;clear hS0 hS3 hL0 hL1 HST hI3 hL hI hb3 hb2 hgll hgl2;go_wp2
 go_loopw [10,11,38] (fun v u i wr=>∃(k fa fb q:Nat) (cs:List Int),k≤xs.length∧i = .int .i64 k∧v = .slice (some ⟨g,fa,none⟩) (ys.length+1) W∧u = .slice (some ⟨g,fb,none⟩) q W∧((fa=0∧fb=W)∨(fa=W∧fb=0))∧cs.length=2*W∧IBlk wr g cs∧(∀j,j≤ys.length→cs[fa+j]?=some (lv (xs.take k) (ys.take j):Int))∧Below w1.heap.size w1 wr) (fun _ _ i _=>xs.length-(intOf i).toNat)
 case atStart=>
  have hlen:0+(dr [] ys).length≤(List.replicate (2*W) (0:Int)).length:=by rw[zDz,List.length_replicate];have:=HW.out;omega
  refine⟨0,0,W,0,_,Nat.zero_le _,rfl,rfl,rfl,.inl ⟨rfl,rfl⟩,?_,HI3.out,fun j hj=>?_,hE3⟩
  · rw[zLg hlen,List.length_replicate]
  · rw[zVn hlen (by rw[zDz];omega),zEz _ _ hj];simp
 case round=>
  obtain⟨k,fa,fb,q,cs,hk,rfl,rfl,rfl,hfab,hcl,hI,hA,hbel⟩:=hrel;have HI:Hid (IBlk wr g cs):=hI;have HA:Hid (∀j,j≤ys.length→cs[fa+j]?=some (lv (xs.take k) (ys.take j):Int)):=hA;have HC:Hid (cs.length=2*W):=hcl;have HAB:Hid ((fa=0∧fb=W)∨(fa=W∧fb=0)):=hfab;clear hI hA hcl hfab;by_cases hlt:k<xs.length
  · obtain⟨r,hr⟩:∃r,xs[k]?=some r:=⟨_,List.getElem?_eq_getElem hlt⟩
    obtain⟨gx,offx,rfl,hgx,hcx⟩:=(HX.out.below hbel).at hr;(have HT:Hid (xs.take (k+1)=xs.take k++[r]):=by unfold Hid;rw[List.take_add_one,hr];rfl);clear hr;go_wp2_with (go_at_call 157;refine(next_any wr g fb fa W W cs (xs.take k) ys r _ w1.heap.size HI.out (by have:=HW.out;omega) (by have:=HC.out;have:=HW.out;rcases HAB.out with h|h<;>omega) HA.out (by have:=HW.out;rcases HAB.out with h|h<;>omega) (HY.out.below hbel) hg1 (by omega) (by rw[List.length_take];omega)).mono ?_;rintro e w4 ⟨rfl,hI4,hb4⟩);have hlen:Hid (fb+(dr (xs.take k++[r]) ys).length≤cs.length):=by unfold Hid;rw[zDz,HC.out];have:=HW.out;rcases HAB.out with h|h<;>omega
    go_roundw
    case rel=>
     refine⟨k+1,fb,fa,_,_,by omega,by go_num,rfl,rfl,by rcases HAB.out with h|h;exact .inr ⟨h.2,h.1⟩;exact .inl ⟨h.2,h.1⟩,?_,hI4,fun j hj=>?_,?_⟩
     · rw[zLg hlen.out];exact HC.out
     · rw[zVn hlen.out (by rw[zDz];omega),zEz _ _ hj,HT.out]
     · exact hbel.trans (hb4.below hg1 hbel.size)
    case measure=>simp[intOf];omega
  · obtain rfl:k=xs.length:=by omega
    have hc:wr.cell? ⟨g,fa+ys.length,none⟩=some (.int .i64 (lv xs ys:Int)):=by
     have:=HA.out ys.length (Nat.le_refl _);rw[List.take_of_length_le (Nat.le_refl _),List.take_of_length_le (Nat.le_refl _)]at this;exact HI.out.cell this
    go_wp2;go_ret2;exact⟨by rw[HF.out];rfl,hb1.trans (hbel.mono hb1.size)⟩
end
section
open Go.RowKit Nums Ed
def dN(o:Option Nat):Int:=match o with|some n=>(n:Int)|none=>0
def dF(o:Option Nat):Bool:=match o with|some _=>true|none=>false
def lvF:Nat→List Int→List Int→Nat
 |0,xs,ys=>xs.length+ys.length
 |_+1,[],ys=>ys.length
 |_+1,_::xs,[]=>xs.length+1
 |f+1,x::xs,y::ys=>min (lvF f xs ys+if x=y then 0 else 1) (min (lvF f xs (y::ys)+1) (lvF f (x::xs) ys+1))
theorem zQr:∀(f:Nat) (xs ys:List Int),xs.length+ys.length≤f→lvF f xs ys=lv xs ys
 |0,xs,ys,h=>by
  have e1:xs=[]:=List.length_eq_zero_iff.1 (by omega);subst e1;rw[zCm];simp[lvF]
 |_+1,[],ys,_=>by rw[zCm];rfl
 |_+1,_::xs,[],_=>by rw[zB8];rfl
 |f+1,x::xs,y::ys,h=>by
  simp only[List.length_cons]at h;rw[zEc,lvF,zQr f xs ys (by omega),zQr f xs (y::ys) (by simp only[List.length_cons];omega),zQr f (x::xs) ys (by simp only[List.length_cons];omega)]
end
section
open Go.RowKit Nums Ed
def MadeI(B:Nat)(w:World)(v:Value)(xs:List Int):Prop:=w.ownsRow B 3 1 v xs.length (xs.map (Value.int .i64))
theorem MadeI.mono{B B':Nat}{w:World}{v:Value}{xs:List Int}(h:MadeI B w v xs)(hB:B'≤B):MadeI B' w v xs:=by
 obtain⟨hl,hn|⟨g,cap,cur,rfl,h1,h2⟩⟩:=h
 · exact⟨hl,.inl hn⟩
 · exact⟨hl,.inr ⟨g,cap,cur,rfl,by omega,h2⟩⟩
theorem MadeI.at{B:Nat}{w:World}{v:Value}{xs:List Int}(h:MadeI B w v xs)(h0:0<xs.length):∃g cap,v = .slice (some ⟨g,0,none⟩) xs.length cap∧∀(i:Nat) (x:Int),xs[i]?=some x→w.cell? ⟨g,i,none⟩=some (.int .i64 x):=by
 obtain⟨hl,hn|⟨g,cap,cur,rfl,hb,hg,h1,h2,h3,h4⟩⟩:=h
 · omega
 · refine⟨g,cap,rfl,fun i x hi=>?_⟩
   have hi':=(List.getElem?_eq_some_iff.1 hi).1;have hc:cur[i]?=some (.int .i64 x):=by
    (have e:(cur.toList.take (xs.length*1))[i]?=(xs.map (Value.int .i64))[i]?:=by rw[h4]);rw[List.getElem?_take,if_pos (by omega)]at e;rw[←Array.getElem?_toList,e,List.getElem?_map,hi];rfl
   simp only[World.cell?,hg];simpa using hc
theorem MadeI.new(w:World)(x:Int):MadeI w.heap.size (w.alloc (.cells #[.int .i64 x] 3)) (.slice (some ⟨w.heap.size,0,none⟩) 1 1) [x]:=
 ⟨rfl,.inr ⟨w.heap.size,1,#[.int .i64 x],rfl,Nat.le_refl _,(MapKept.heap_alloc w _).1,Nat.le_refl _,by decide,rfl,rfl⟩⟩
attribute [local go_sem ↓] zKv
set_option maxHeartbeats 1000000 in
theorem Far_any(vx vy:Value)(xs ys:List Int)(w:World)(hx:RunesAt w.heap.size w vx xs)(hy:RunesAt w.heap.size w vy ys)(hxl:xs.length≤2000)(hyl:ys.length≤2000):
 Calls Tryz.prog 129 #[vx,vy] w fun e w'=>e = .returned (.int .i64 (lv xs ys:Int))∧Below w.heap.size w w':=by
 obtain⟨i0,hi,hz0,hz1,hz2⟩:=info_parts zOw;obtain⟨adx,capx,rfl⟩:=hx.form;obtain⟨ady,capy,rfl⟩:=hy.form;have HX:Hid (RunesAt w.heap.size w (.slice adx xs.length capx) xs):=hx;have HY:Hid (RunesAt w.heap.size w (.slice ady ys.length capy) ys):=hy;clear hx hy;go_enter Tryz.func129,Tryz.ntmps129;go_wp2
 go_loopw [5,6] (fun v j wr=>∃(k:Nat) (v0:Value),v0=v∧k≤ys.length+1∧j = .int .i64 k∧MadeI w.heap.size wr v ((dr [] ys).take k)∧Below w.heap.size w wr) (fun _ j _=>ys.length+1-(intOf j).toNat)
 case atStart=>exact⟨0,_,rfl,by omega,rfl,World.ownsRow_nil _ _ _ _,Below.refl _ _⟩
 case round=>
  obtain⟨k,v0,hv0,hk,rfl,hM,hbel⟩:=hrel;subst hv0;by_cases hlt:k≤ys.length
  · have hlen:Hid (((dr [] ys).take k).length=k):=zKm _ _ (by omega)
    go_wp2_with (at_builtin;refine wpList_append_own _ rfl _ _ 118 rfl w.heap.size 3 i0 (.int .i64 0) 1 8 Tryz.underlying118 hi hz0 hz1 hz2 rfl (by decide) _ _ _ rfl (World.ownsRow.alloc hM _) ⟨wr.heap.size,0,none⟩ 1 1 [.int .i64 k] rfl rfl ?c1 ?c2 ?c3 ?c4 ?c5 ?_)
    case c1=>
     intro j u hj
     match j,hj with
     |0,hj=>simp at hj;subst hj;simp[Addr.add]
    (case c2=>intro u hu;simp at hu;subst hu;rfl);(case c3=>unfold maxLen;rw[hlen.out];omega);(case c4=>rw[hlen.out];omega);(case c5=>have:=hbel.size;simp;omega);intro v' w1 hown' hgrow _;have hM2:Hid (MadeI w.heap.size w1 v' ((dr [] ys).take (k+1))):=by
     unfold Hid MadeI;rw[List.take_add_one,zRb _ hlt];simpa using hown'
    have hb1:Below w.heap.size w w1:=(hbel.alloc hbel.size _).grown hgrow (by have:=hbel.size;simp;omega) (fun k hk=>(World.ownsRow.lt hM k hk).1);clear hown' hgrow hM;go_wp2
    go_roundw
    (case rel=>exact⟨k+1,_,rfl,by omega,by go_num,hM2.out,hb1⟩);case measure=>simp[intOf];omega
  · obtain rfl:k=ys.length+1:=by omega
    have HM:Hid (MadeI w.heap.size wr v0 (dr (xs.take 0) ys)):=by
     rw[List.take_of_length_le (by rw[zDz];omega)]at hM;exact hM
    clear hM;obtain⟨wa,hwa⟩:∃wa:World,wa=wr:=⟨_,rfl⟩;subst hwa;go_wp2
    go_loopw [5,7] (fun v i wr=>∃(k:Nat) (v1:Value),v1=v∧k≤xs.length∧i = .int .i64 ((k:Int)+1)∧MadeI w.heap.size wr v (dr (xs.take k) ys)∧Below w.heap.size w wr) (fun _ i _=>xs.length+1-(intOf i).toNat)
    case atStart=>exact⟨0,_,rfl,Nat.zero_le _,rfl,HM.out,hbel⟩
    case round=>
     obtain⟨k,v1,hv1,hk,rfl,hM,hb1⟩:=hrel;subst hv1;clear HM hbel;obtain⟨wb,hwb⟩:∃wb:World,wb=wr:=⟨_,rfl⟩;subst hwb;have HM:Hid (MadeI w.heap.size wb v1 (dr (xs.take k) ys)):=hM;clear hM;obtain⟨gr,capr,rfl,hcr⟩:=HM.out.at (by rw[zDz];omega);have HCR:Hid (∀(i:Nat) (x:Int),(dr (xs.take k) ys)[i]?=some x→wb.cell? ⟨gr,i,none⟩=some (.int .i64 x)):=hcr;clear hcr;rw[zDz]at *;by_cases hlt:k<xs.length
     · obtain⟨r,hr⟩:∃r,xs[k]?=some r:=⟨_,List.getElem?_eq_getElem hlt⟩
       (have HT:Hid (xs.take (k+1)=xs.take k++[r]):=by unfold Hid;rw[List.take_add_one,hr];rfl);obtain⟨gx,offx,rfl,hgx,hcx⟩:=(HX.out.below hb1).at hr;have hgxb:gx<wb.heap.size:=Nat.lt_of_lt_of_le hgx hb1.size;clear hr;(have hkd:decide ((k:Int)+1≤(xs.length:Int))=true:=by simp;omega);(have hk1:IntKind.i64.wrap ((k:Int)+1-1)=(k:Int):=by rw[IntKind.wrap_i64];omega);go_wp2
       go_loopw [8,9] (fun u j wr=>∃(q Q:Nat) (u0:Value),u0=u∧Q=q+1∧q≤ys.length∧j = .int .i64 (Q:Int)∧MadeI wb.heap.size wr u ((dr (xs.take k++[r]) ys).take (q+1))∧Below wb.heap.size wb wr) (fun _ j _=>ys.length+1-(intOf j).toNat)
       case atStart=>
        refine⟨0,1,_,rfl,rfl,Nat.zero_le _,rfl,?_,(Below.refl _ _).alloc (Nat.le_refl _) _⟩;have:=MadeI.new wb ((k:Int)+1);rw[zHo _ _ (Nat.zero_le _),List.take_zero,List.take_zero,zB8,List.nil_append,List.length_append,List.length_take,Nat.min_eq_left (by omega)];simpa using this
       case round=>
        obtain⟨q,Q,u0,hu0,hQ,hq,rfl,hN,hb2⟩:=hrel;subst hu0;have HQ:Hid (Q=q+1):=hQ;clear hQ;have hlen:Hid (((dr (xs.take k++[r]) ys).take (q+1)).length=q+1):=zKm _ _ (by omega);have HN:Hid (MadeI wb.heap.size wr u0 ((dr (xs.take k++[r]) ys).take (q+1))):=hN;clear hN;obtain⟨gn,capn,rfl,hcn⟩:=HN.out.at (by rw[hlen.out];omega);have HN2:Hid (wr.ownsRow wb.heap.size 3 1 (.slice (some ⟨gn,0,none⟩) (q+1) capn) (q+1) (((dr (xs.take k++[r]) ys).take (q+1)).map (Value.int .i64))):=by
         have:=HN.out;unfold MadeI at this
         rwa [hlen.out]at this
        rw[hlen.out];clear HN;by_cases hlt2:q<ys.length
        · obtain⟨s,hs⟩:∃s,ys[q]?=some s:=⟨_,List.getElem?_eq_getElem hlt2⟩
          obtain⟨gy,offy,rfl,hgy,hcy⟩:=((HY.out.below hb1).below (hb2.mono hb1.size)).at hs;have hcx2:wr.cell? ⟨gx,offx+k,none⟩=some (.int .i32 r):=(hb2.cell (p:=⟨gx,offx+k,none⟩) hgxb).trans hcx;have hgrb:gr<wb.heap.size:=zAq (HCR.out 0 _ (dr_first _ _));have hR0:wr.cell? ⟨gr,q,none⟩=some (.int .i64 (lv (xs.take k) (ys.take q):Int)):=(hb2.cell (p:=⟨gr,q,none⟩) hgrb).trans (HCR.out q _ (zEz _ _ (by omega)));(have hR1:wr.cell? ⟨gr,Q,none⟩=some (.int .i64 (lv (xs.take k) (ys.take (q+1)):Int)):=by rw[HQ.out];exact(hb2.cell (p:=⟨gr,q+1,none⟩) hgrb).trans (HCR.out (q+1) _ (zEz _ _ (by omega))));have hN0:wr.cell? ⟨gn,q,none⟩=some (.int .i64 (lv (xs.take k++[r]) (ys.take q):Int)):=hcn q _ (by rw[List.getElem?_take,if_pos (by omega),zEz _ _ (by omega)]);have b0:=zSq (xs.take k) ys q;have b1:=zSq (xs.take k) ys (q+1);have b2:=zSq (xs.take k++[r]) ys q;(have hkl:(xs.take k).length≤2000:=by rw[List.length_take];omega);rw[List.length_append,List.length_singleton]at b2;have HNX:Hid _:=zWr (xs.take k) ys r hs;generalize hd0:lv (xs.take k) (ys.take q)=d0 at *;generalize hd1:lv (xs.take k) (ys.take (q+1))=d1 at *;generalize hd2:lv (xs.take k++[r]) (ys.take q)=d2 at *;clear hd0 hd1 hd2 hcn hs;obtain⟨d3,hd3⟩:∃d3,d3=lv (xs.take k++[r]) (ys.take (q+1)):=⟨_,rfl⟩;rw[←hd3]at HNX;have HD3:Hid (d3=lv (xs.take k++[r]) (ys.take (q+1))):=hd3;clear hd3;(have hwq:IntKind.i64.wrap ((Q:Int)-1)=(q:Int):=by rw[IntKind.wrap_i64];have:=HQ.out;omega);(have hQb:(Q:Int)<(ys.length:Int)+1:=by have:=HQ.out;omega);(have hQl:(Q:Int)≤(ys.length:Int):=by have:=HQ.out;omega);(have hwd0:IntKind.i64.wrap ((d0:Int)+1)=(d0:Int)+1:=by rw[IntKind.wrap_i64];omega);(have hwd1:IntKind.i64.wrap ((d1:Int)+1)=(d1:Int)+1:=by rw[IntKind.wrap_i64];omega);(have hwd2:IntKind.i64.wrap ((d2:Int)+1)=(d2:Int)+1:=by rw[IntKind.wrap_i64];omega);(have hwQ:IntKind.i64.wrap ((Q:Int)+1)=(Q:Int)+1:=by rw[IntKind.wrap_i64];have:=HQ.out;omega);by_cases hsr:s=r
          · obtain rfl:r=s:=hsr.symm
            have HM3:Hid (min3 ((d2:Int)+1) ((d1:Int)+1) (d0:Int)=(d3:Int)):=by
             have:=HNX.out;rw[if_pos rfl]at this;unfold Hid min3
             split<;>split at*<;> omega
            go_wp2;go_quiet (fail);go_wp2_with (at_builtin;refine wpList_append_own _ rfl _ _ 118 rfl wb.heap.size 3 i0 (.int .i64 0) 1 8 Tryz.underlying118 hi hz0 hz1 hz2 rfl (by decide) _ _ _ rfl (World.ownsRow.alloc (w:=wr.drewN _) HN2.out _) ⟨wr.heap.size,0,none⟩ 1 1 [.int .i64 (min3 ((d2:Int)+1) ((d1:Int)+1) (d0:Int))] rfl rfl ?c1 ?c2 ?c3 ?c4 ?c5 ?_)
            case c1=>
             intro j u hj
             match j,hj with
             |0,hj=>simp at hj;subst hj;exact zK6 (wr.drewN _) _ _
            (case c2=>intro u hu;simp at hu;subst hu;rfl);(case c3=>unfold maxLen;omega);(case c4=>omega);(case c5=>have:=hb2.size;simp;omega);intro v' w5 hown' hgrow _;have hM2:Hid (MadeI wb.heap.size w5 v' ((dr (xs.take k++[r]) ys).take (q+1+1))):=by
             unfold Hid MadeI;rw[zHo _ _ (show q+1≤ys.length by omega),←HD3.out,List.length_append,hlen.out];rw[HM3.out]at hown';simpa using hown'
            have hb5:Below wb.heap.size wb w5:=((below_drewN hb2 _).alloc (by simpa using hb2.size) _).grown hgrow (by have:=hb2.size;simp;omega) (fun k hk=>(World.ownsRow.lt HN2.out k hk).1);clear hown' hgrow;go_wp2
            go_roundw
            case rel=>
             repeat (apply Exists.intro)
             refine⟨?_,rfl⟩;exact⟨q+1,Q+1,_,rfl,by rw[HQ.out],by omega,by go_num,hM2.out,hb5⟩
            case measure=>simp[intOf];have:=HQ.out;omega
          · have hsb:(r==s)=false:=by simpa using fun e=>hsr e.symm
            have HM3:Hid (min3 ((d2:Int)+1) ((d1:Int)+1) ((d0:Int)+1)=(d3:Int)):=by
             have:=HNX.out;rw[if_neg hsr]at this;unfold Hid min3
             split<;>split at*<;> omega
            clear hsr;go_wp2;go_quiet (fail);go_wp2_with (at_builtin;refine wpList_append_own _ rfl _ _ 118 rfl wb.heap.size 3 i0 (.int .i64 0) 1 8 Tryz.underlying118 hi hz0 hz1 hz2 rfl (by decide) _ _ _ rfl (World.ownsRow.alloc (w:=wr.drewN _) HN2.out _) ⟨wr.heap.size,0,none⟩ 1 1 [.int .i64 (min3 ((d2:Int)+1) ((d1:Int)+1) ((d0:Int)+1))] rfl rfl ?c1 ?c2 ?c3 ?c4 ?c5 ?_)
            case c1=>
             intro j u hj
             match j,hj with
             |0,hj=>simp at hj;subst hj;exact zK6 (wr.drewN _) _ _
            (case c2=>intro u hu;simp at hu;subst hu;rfl);(case c3=>unfold maxLen;omega);(case c4=>omega);(case c5=>have:=hb2.size;simp;omega);intro v' w5 hown' hgrow _;have hM2:Hid (MadeI wb.heap.size w5 v' ((dr (xs.take k++[r]) ys).take (q+1+1))):=by
             unfold Hid MadeI;rw[zHo _ _ (show q+1≤ys.length by omega),←HD3.out,List.length_append,hlen.out];rw[HM3.out]at hown';simpa using hown'
            have hb5:Below wb.heap.size wb w5:=((below_drewN hb2 _).alloc (by simpa using hb2.size) _).grown hgrow (by have:=hb2.size;simp;omega) (fun k hk=>(World.ownsRow.lt HN2.out k hk).1);clear hown' hgrow;go_wp2
            go_roundw
            case rel=>
             repeat (apply Exists.intro)
             refine⟨?_,rfl⟩;exact⟨q+1,Q+1,_,rfl,by rw[HQ.out],by omega,by go_num,hM2.out,hb5⟩
            case measure=>simp[intOf];have:=HQ.out;omega
        · obtain rfl:q=ys.length:=by omega
          (have hQl:¬(Q:Int)≤(ys.length:Int):=by have:=HQ.out;omega);(have hwK:IntKind.i64.wrap ((k:Int)+1+1)=(k:Int)+1+1:=by rw[IntKind.wrap_i64];omega);go_wp2
          go_roundw
          case rel=>
           refine⟨k+1,_,rfl,by omega,by go_num,?_,hb1.trans (hb2.mono hb1.size)⟩;refine MadeI.mono (B:=wb.heap.size) ?_ hb1.size;unfold MadeI;rw[HT.out,zDz];have:=HN2.out;rw[List.take_of_length_le (by rw[zDz];omega)]at this;exact this
          case measure=>simp[intOf];omega
     · obtain rfl:k=xs.length:=by omega
       have hc:wb.cell? ⟨gr,ys.length,none⟩=some (.int .i64 (lv xs ys:Int)):=by
        have:=HCR.out ys.length _ (dr_last _ _)
        rwa [List.take_of_length_le (Nat.le_refl _)]at this
       go_wp2;go_ret;exact⟨rfl,hb1⟩
end
section
open Go.RowKit Nums Ed
def RunSays(w w':World)(l:List UInt8)(v:Value)(f:Bool):Prop:=
 (f=false∧rs l=none∧v = .slice none 0 0)∨(f=true∧∃xs,rs l=some xs∧Made w.heap.size w' v xs)
theorem zIs(s:ByteArray)(w:World)(hm:s.size≤1100000):
 Calls Tryz.prog 69 #[.string s] w fun e w'=>∃v f,e = .returned (.tuple #[v,.bool f])∧Below w.heap.size w w'∧RunSays w w' s.data.toList v f:=by
 refine(zG0 s w (by omega) (zCz (by rw[zAd];omega))).mono ?_;rintro e w' ⟨v,hb,⟨hn,rfl,rfl⟩|⟨xs,hs,rfl,hm⟩⟩
 · exact⟨_,_,rfl,hb,.inl ⟨rfl,hn,rfl⟩⟩
 · exact⟨_,_,rfl,hb,.inr ⟨rfl,xs,hs,hm⟩⟩
set_option maxHeartbeats 1000000 in
theorem zI0(a b:ByteArray)(w:World)(ha:a.size≤1048576)(hb:b.size≤1048576):
 Calls Tryz.prog 87 #[.string a,.string b] w fun e w'=>e = .returned (.tuple #[.int .i64 (dN (dsE a.data.toList b.data.toList)),.bool (dF (dsE a.data.toList b.data.toList))])∧Below w.heap.size w w':=by
 go_enter Tryz.func87,Tryz.ntmps87;go_upto_region 2 with(go_at_call 69;refine(zIs a _ (by omega)).mono ?_;rintro e w1 ⟨v,f,rfl,hb1,hc1⟩)
 go_upto_region 3 with(go_at_call 69;refine(zIs b _ (by omega)).mono ?_;rintro e w2 ⟨u,f2,rfl,hb2,hc2⟩)
 have hb12:Below w.heap.size w w2:=hb1.trans (hb2.mono hb1.size);rcases hc1 with⟨rfl,h1,rfl⟩|⟨rfl,xs,h1,m1⟩
 · have HF:Hid (dsE a.data.toList b.data.toList=none):=zLn (zG4 h1)
   clear h1 hc2;go_wp2;go_ret2;exact⟨by rw[HF.out];rfl,hb12⟩
 rcases hc2 with⟨rfl,h2,rfl⟩|⟨rfl,ys,h2,m2⟩
 · have HF:Hid (dsE a.data.toList b.data.toList=none):=zIe (zG4 h2)
   clear h1 h2;go_wp2;go_ret2;exact⟨by rw[HF.out];rfl,hb12⟩
 have HX:Hid (RunesAt w2.heap.size w2 v xs):=(m1.below hb2).runesE;have HY:Hid (RunesAt w2.heap.size w2 u ys):=m2.runesE;clear m1 m2;obtain⟨adx,capx,rfl⟩:=HX.out.form;obtain⟨ady,capy,rfl⟩:=HY.out.form;have hxl:=(rs_len h1).2;have hyl:=(rs_len h2).2;rw[zAd]at hxl hyl;by_cases hx:xs.length≤1024
 · by_cases hy:ys.length≤1024
   · have HF:Hid (dsE a.data.toList b.data.toList=some (lv xs ys)):=zLm (zFe h1 hx) (zFe h2 hy)
     clear h1 h2;go_wp2_with (go_at_call 129;refine(Far_any _ _ xs ys _ HX.out HY.out (by omega) (by omega)).mono ?_;rintro e w3 ⟨rfl,hb3⟩);go_ret2;exact⟨by rw[HF.out];rfl,hb12.trans (hb3.mono hb12.size)⟩
   · have HF:Hid (dsE a.data.toList b.data.toList=none):=zIe (zG5 h2 hy)
     clear h1 h2;go_wp2;go_ret2;exact⟨by rw[HF.out];rfl,hb12⟩
 · have HF:Hid (dsE a.data.toList b.data.toList=none):=zLn (zG5 h1 hx)
   clear h1 h2;go_wp2;go_ret2;exact⟨by rw[HF.out];rfl,hb12⟩
end
section
open Go.RowKit Nums Ed
def max2(a b:Int):Int:=if a<b then b else a
theorem run_max2(ts:Array TypeId)(ty:TypeId)(k:IntKind)(a b:Int)(w:World):(Builtin.max_ ts ty #[.int k a,.int k b]).run Tryz.prog w = .ok (.int k (max2 a b)) w:=by
 simp[Builtin.max_,Builtin.max2,max2,Sem.run_pure]
attribute [local go_sem ↓] run_max2
end
section
open Go.RowKit Nums Ed Lv
abbrev bv(n:Nat):Value := .int .u8 (n:Int)
def rC(v:List Nat):Array Value:=(v.map bv).toArray
def rV(v:List Nat):Value := .agg (rC v)
theorem zOk(v:List Nat):(rC v).size=v.length:=by simp[rC]
theorem rC_one(v:List Nat):(rC v).all (·.oneCell')=true:=by
 refine all_oneCell_toArray fun x hx=>?_
 obtain⟨y,_,rfl⟩:=List.mem_map.1 hx;rfl
def celV(v:Value):Array Value:=v.cells
theorem zEo(v:List Nat):celV (rV v)=rC v:=rfl
def zeros:List Nat:=List.replicate 25 0
theorem zKf:zeros=mk fun _=>0:=by simp[zeros,mk,List.map_const']
theorem zBg:zeros.length=25:=by simp[zeros]
theorem rC_zeros:rC zeros=Array.replicate 25 (.int .u8 0):=by
 rw[rC,zeros,List.map_replicate,List.toArray_replicate];rfl
theorem zBk(w:World)(o:Obj):(w.alloc o).heap[w.heap.size]?=some o:=(MapKept.heap_alloc w o).1
theorem zB6(w:World)(o:Obj){k:Nat}(h:k<w.heap.size):(w.alloc o).heap[k]?=w.heap[k]?:=(MapKept.heap_alloc w o).2 k h
theorem zBa(w:World)(o:Obj):(w.alloc o).heap.size=w.heap.size+1:=by simp
def RAt(w:World)(b:Nat)(bs:List Nat):Prop:=w.heap[b]?=some (.cells (rC bs) 137 (0,0))
theorem RAt.lt{w:World}{b:Nat}{bs:List Nat}(h:RAt w b bs):b<w.heap.size:=(Array.getElem?_eq_some_iff.1 h).1
theorem RAt.same{w w':World}{b:Nat}{bs:List Nat}(h:RAt w b bs)(e:w'.heap[b]?=w.heap[b]?):RAt w' b bs:=e.trans h
theorem RAt.below{w w':World}{b B:Nat}{bs:List Nat}(h:RAt w b bs)(hB:b<B)(hb:Below B w w'):RAt w' b bs:=(hb.block b hB).trans h
theorem RAt.new(w:World)(bs:List Nat):RAt (w.alloc (.cells (rC bs) 137)) w.heap.size bs:=zBk _ _
theorem RAt.old{w:World}{b:Nat}{bs:List Nat}(h:RAt w b bs)(o:Obj):RAt (w.alloc o) b bs:=(zB6 w o h.lt).trans h
theorem range_rC{w:World}{b:Nat}{v:List Nat}{t:TypeId}{f:Nat×Nat}(h:w.heap[b]?=some (.cells (rC v) t f)):w.rangeAt b 0 (v.map bv):=by
 intro j u hj;simp only[World.cell?,h,Nat.zero_add,rC];simpa using hj
theorem RAt.range{w:World}{b:Nat}{bs:List Nat}(h:RAt w b bs):w.rangeAt b 0 (bs.map bv):=range_rC h
theorem RAt.cell{w:World}{b:Nat}{bs:List Nat}(h:RAt w b bs){i:Nat}(hi:i<bs.length):w.cell? ⟨b,i,none⟩=some (bv (bs.getD i 0)):=by
 have:=h.range i (bv (bs.getD i 0)) (by rw[List.getElem?_map,List.getElem?_eq_getElem hi];simp[List.getD_eq_getElem?_getD,List.getElem?_eq_getElem hi]);simpa using this
theorem RAt.frozen{w:World}{b:Nat}{bs:List Nat}(h:RAt w b bs)(o:Nat):w.frozen? ⟨b,o,none⟩=false:=by
 unfold RAt at h;simp[World.frozen?,h]
theorem RAt.there{w:World}{b:Nat}{bs:List Nat}(h:RAt w b bs)(n:Nat)(hn:n≤bs.length):w.there b 0 n:=fun j hj=>⟨by rw[Nat.zero_add,h.cell (by omega)];rfl,h.frozen _⟩
theorem RAt.set{w:World}{b k x:Nat}{bs:List Nat}(h:RAt w b bs):RAt (w.setCell ⟨b,k,none⟩ (bv x)) b (bs.set k x):=by
 unfold RAt at h ⊢;simp only[World.setCell,Array.getElem?_modify,h];simp[rC,List.map_set]
theorem RAt.off{w:World}{b c k:Nat}{bs:List Nat}{v:Value}(h:RAt w b bs)(hne:b≠c):RAt (w.setCell ⟨c,k,none⟩ v) b bs:=(Below.heap_setCell _ _ _ _ hne).trans h
def spl(C:Array Value):Nat→List Value→Array Value
 |_,[]=>C
 |o,v::r=>spl (C.setIfInBounds o v) (o+1) r
theorem spl_size(vs:List Value):∀(C:Array Value) (o:Nat),(spl C o vs).size=C.size:=by
 induction vs with
 |nil=>intro C o;rfl
 |cons v r ih=>intro C o;rw[spl,ih];simp
theorem spl_get(vs:List Value):∀(C:Array Value) (o i:Nat),i<C.size→(spl C o vs)[i]?=if o≤i∧i<o+vs.length then vs[i-o]? else C[i]?:=by
 induction vs with
 |nil=>intro C o i hi;rw[spl,if_neg];simp
 |cons v r ih=>
  intro C o i hi;rw[spl,ih _ _ _ (by simpa using hi)];by_cases h1:o+1≤i∧i<o+1+r.length
  · rw[if_pos h1,if_pos (by simp;omega)]
    (have e:i-o=(i-(o+1))+1:=by omega);rw[e,List.getElem?_cons_succ]
  · rw[if_neg h1]
    by_cases h2:i=o
    · subst h2
      rw[if_pos (by simp)];simp[hi]
    · rw[if_neg (by simp;omega),Array.getElem?_setIfInBounds_ne (by omega)]
theorem spl_full(C:Array Value)(vs:List Value)(h:vs.length=C.size):spl C 0 vs=vs.toArray:=by
 apply Array.ext_getElem?;intro i;by_cases hi:i<C.size
 · rw[spl_get _ _ _ _ hi,if_pos (by omega)];simp
 · rw[Array.getElem?_eq_none (by rw[spl_size];omega),Array.getElem?_eq_none (by simp;omega)]
structure One(b:Nat)(w w':World):Prop where
 os:w'.os=w.os
 tape:w'.tape=w.tape
 output:w'.output=w.output
 size:w'.heap.size=w.heap.size
 block:∀k,k≠b→w'.heap[k]?=w.heap[k]?
theorem one_set(w:World)(p o:Nat)(v:Value):One p w (w.setCell ⟨p,o,none⟩ v):=⟨rfl,rfl,rfl,by simp[World.setCell],fun k hk=>Below.heap_setCell _ _ _ _ hk⟩
theorem One.trans{p:Nat}{a b c:World}(h:One p a b)(k:One p b c):One p a c:=⟨k.os.trans h.os,k.tape.trans h.tape,k.output.trans h.output,k.size.trans h.size,fun i hi=>(k.block i hi).trans (h.block i hi)⟩
theorem One.below{B p:Nat}{a b c:World}(k:Below B a b)(h:One p b c)(hB:B≤p):Below B a c:=
 k.trans ⟨h.os,h.tape,h.output,Nat.le_of_eq h.size.symm,fun j hj=>h.block j (by omega)⟩
theorem zOa{b:Nat}{t:TypeId}{f:Nat×Nat}(vs:List Value):∀(w:World) (C:Array Value) (o:Nat),w.heap[b]?=some (.cells C t f)→(w.setCells b o vs).heap[b]?=some (.cells (spl C o vs) t f)∧One b w (w.setCells b o vs):=by
 induction vs with
 |nil=>intro w C o h;exact⟨h,⟨rfl,rfl,rfl,rfl,fun _ _=>rfl⟩⟩
 |cons v r ih=>
  intro w C o h;have hs:(w.setCell ⟨b,o,none⟩ v).heap[b]?=some (.cells (C.setIfInBounds o v) t f):=by simp[World.setCell,Array.getElem?_modify,h]
  obtain⟨h1,h2⟩:=ih (w.setCell ⟨b,o,none⟩ v) (C.setIfInBounds o v) (o+1) hs;exact⟨h1,(one_set w b o v).trans h2⟩
def setR(w:World)(b:Nat)(ys:List Nat):World:=w.setCells b 0 (ys.map bv)
theorem RAt.put{w:World}{b:Nat}{bs ys:List Nat}(h:RAt w b bs)(hl:ys.length=bs.length):RAt (setR w b ys) b ys∧One b w (setR w b ys):=by
 obtain⟨h1,h2⟩:=zOa (ys.map bv) w (rC bs) 0 h;rw[spl_full _ _ (by rw[List.length_map,zOk,hl])]at h1;exact⟨h1,h2⟩
theorem zG9:(Tryz.prog.info? 137).map (fun i=>(i.zero,i.size,i.bytes))=some (some (.agg (Array.replicate 25 (.int .u8 0))),25,25):=by kernel_rfl
theorem zero_Row(w:World):(zeroValue 137).run Tryz.prog w = .ok (rV zeros) w:=by
 obtain⟨i,hi,hz,hs,hb⟩:=info_parts zG9;rw[rV,rC_zeros];simp[zeroValue,typeInfo,hi,hz,Result.andThen]
def zGk(P:Program)(x:Value)(w:World):Result Value:=(Instr.loadAt 137 x).run P w
def zJf(P:Program)(x y:Value)(w:World):Result Unit:=(Instr.storeAt 137 x y).run P w
section
variable (ρ:Operand→Value) (x y:Operand) (dst:Option Tmp) (ty:TypeId) (pos:String) (af:Array Edge) (g:Option (Nat×Bool)) (w:World)
theorem zA7:(execOp ρ ⟨dst,.alloc 137,ty,pos,af,g⟩).run Tryz.prog w = .ok (.value (.pointer (some ⟨w.heap.size,0,none⟩))) (w.alloc (.cells (rC zeros) 137)):=by
 simp only[execOp,Sem.run_bind,Instr.alloc,zero_Row,Result.andThen,newVar,newRow];rfl
theorem zCg:(execOp ρ ⟨dst,.box 137 x,ty,pos,af,g⟩).run Tryz.prog w = .ok (.value (.pointer (some ⟨w.heap.size,0,none⟩))) (w.alloc (.cells (celV (ρ x)) 137)):=by
 simp only[execOp,Sem.run_bind,Instr.box,newVar,newRow];rfl
theorem zA0:(execOp ρ ⟨dst,.load 137 x,ty,pos,af,g⟩).run Tryz.prog w=(zGk Tryz.prog (ρ x) w).andThen (fun v w' => .ok (.value v) w'):=by
 simp only[execOp,Sem.run_bind,zGk,Sem.run_pure]
theorem zA6:(execOp ρ ⟨dst,.store 137 x y,ty,pos,af,g⟩).run Tryz.prog w=(zJf Tryz.prog (ρ x) (ρ y) w).andThen (fun _ w' => .ok .skip w'):=by
 simp only[execOp,Sem.run_bind,zJf,Sem.run_pure]
end
theorem zBj{w:World}{b o:Nat}{bs:List Nat}(h:w.rangeAt b o (bs.map bv))(hl:bs.length=25):zGk Tryz.prog (.pointer (some ⟨b,o,none⟩)) w = .ok (rV bs) w:=by
 obtain⟨i,hi,hz,hs,hb⟩:=info_parts zG9;have:=run_loadVar_mid (P:=Tryz.prog) w b o 137 (bs.map bv) _ h Tryz.underlying137 rfl (by rw[hi];simp[hs,hl]);simp only[zGk,Instr.loadAt,Instr.sureAddr,Sem.run_bind,Sem.run_pure,Result.andThen_ok,this];rfl
theorem zCj{w:World}{b:Nat}{bs vs:List Nat}(h:RAt w b bs)(hl:bs.length=25)(hv:vs.length=25):zJf Tryz.prog (.pointer (some ⟨b,0,none⟩)) (rV vs) w = .ok () (setR w b vs):=by
 obtain⟨i,hi,hz,hs,hb⟩:=info_parts zG9;rw[zJf,rV,run_storeAt_mid _ _ _ _ (rC vs) (by rw[zOk];exact h.there _ (by omega)) (by rw[hi,zOk];simp[hs,hv]) (rC_one vs)];simp[setR,rC]
theorem zOh{fn:Func}{R:Ending→World→Prop}{a:Act}{w:World}{b s:Nat}{bs:List Nat}(hf:fn.results=#[.cell s 137])(hs:a.tmps[s]?=some (.pointer (some ⟨b,0,none⟩)))(hl:bs.length=25)(h:RAt w b bs)(hd:a.defers=[])(hR:R (.returned (rV bs)) w):bodyPost Tryz.prog fn R .ret a w:=by
 refine bodyPost_ret ?_ hd hR;obtain⟨i,hi,hz,hz1,hb⟩:=info_parts zG9;have h2:=run_loadVar_mid (P:=Tryz.prog) w b 0 137 (bs.map bv) _ h.range Tryz.underlying137 rfl (by rw[hi];simp[hz1,hl]);simp[results,hf,hs,asAddr];exact h2
theorem zUe{l:List Nat}(h:∀x∈l,x<256):rC l=((l.map UInt8.ofNat).map Extern.Stop.cell).toArray:=by
 unfold rC;congr 1;rw[List.map_map];refine List.map_congr_left fun x hx=>?_
 have hx2:=h x hx;simp[Extern.Stop.cell,Nat.mod_eq_of_lt hx2]
theorem ofNat_inj:∀{l m:List Nat},(∀x∈l,x<256)→(∀x∈m,x<256)→l.map UInt8.ofNat=m.map UInt8.ofNat→l=m
 |[],[],_,_,_=>rfl
 |[],_::_,_,_,h=>by simp at h
 |_::_,[],_,_,h=>by simp at h
 |x::l,y::m,h1,h2,h=>by
  simp only[List.map_cons,List.cons.injEq]at h;have hx:=h1 x (.head _);have hy:=h2 y (.head _);have h3:=congrArg UInt8.toNat h.1;simp[Nat.mod_eq_of_lt hx,Nat.mod_eq_of_lt hy]at h3;rw[h3,ofNat_inj (fun z hz=>h1 z (.tail _ hz)) (fun z hz=>h2 z (.tail _ hz)) h.2]
theorem infoB:(Tryz.prog.info? 5).map (fun i=>(i.zero,i.size,i.bytes))=some (some (.int .u8 0),1,1):=by kernel_rfl
theorem eql_row{bs cs:List Nat}(hb:bs.length=25)(hc:cs.length=25)(h1:∀x∈bs,x<256)(h2:∀x∈cs,x<256)(w:World):
 (binOp .eql 137 (rV bs) (rV cs)).run Tryz.prog w = .ok (.bool (decide (bs=cs))) w:=by
 obtain⟨i0,hi,hz0,hz1,hz2⟩:=info_parts infoB;have hsz:∀w,(sizeOf 5).run Tryz.prog w = .ok 1 w:=fun w=>by simp[sizeOf,typeInfo,hi,hz1,Result.andThen]
 unfold rV;rw[zUe h1,zUe h2,run_eql_bytes w 137 5 25 Tryz.underlying137 Tryz.underlying5 hsz _ _ (by simpa using hb) (by simpa using hc)];congr 2;rw[Bool.eq_iff_iff,beq_iff_eq,decide_eq_true_iff];exact⟨ofNat_inj h1 h2,fun h=>by rw[h]⟩
theorem neq_row{bs cs:List Nat}(hb:bs.length=25)(hc:cs.length=25)(h1:∀x∈bs,x<256)(h2:∀x∈cs,x<256)(w:World):
 (binOp .neq 137 (rV bs) (rV cs)).run Tryz.prog w = .ok (.bool (!decide (bs=cs))) w:=by
 have h:=eql_row hb hc h1 h2 w;unfold rV at h ⊢;rw[run_eql_struct]at h;rw[run_neq_struct];generalize (Op.equalIn 10000 137 (.agg (rC bs)) (.agg (rC cs))).run Tryz.prog w=o at h ⊢;cases o with
 |ok b w1=>
  simp only[Result.andThen_ok,Result.ok.injEq,Value.bool.injEq]at h;obtain⟨rfl,rfl⟩:=h;rfl
 |_=>simp[Result.andThen]at h
theorem zV9(op:BinOp)(x y:Operand)(bs cs:List Nat)(W:World):(eqGuard op 137 x y (rV bs) (rV cs)).run Tryz.prog W = .ok () W:=run_eqGuard_agg W _ _ x y _ _ (by kernel_rfl)
end
section
open Go.RowKit Nums Ed Lv
def levC(v:Value)(bs:List Nat):Array Value:=(v::bs.map bv).toArray
structure LevAt(w:World)(p:Nat)(xs:List Int)(d:Nat):Prop where
 len:xs.length≤24
 few:d≤3
 ex:∃ad cap,w.heap[p]?=some (.cells (levC (.slice ad xs.length cap) (zE6 xs.length d)) 178 (0,0))∧RunesAt w.heap.size w (.slice ad xs.length cap) xs
theorem LevAt.below{w w':World}{p:Nat}{xs:List Int}{d:Nat}(h:LevAt w p xs d)(hb:Below w.heap.size w w'):LevAt w' p xs d:=by
 obtain⟨h1,h2,ad,cap,hp,hr⟩:=h;exact⟨h1,h2,ad,cap,(hb.block p (Array.getElem?_eq_some_iff.1 hp).1).trans hp,(hr.below hb).mono hb.size⟩
theorem LevAt.lt{w:World}{p:Nat}{xs:List Int}{d:Nat}(h:LevAt w p xs d):p<w.heap.size:=by
 obtain⟨_,_,ad,cap,hp,_⟩:=h;exact(Array.getElem?_eq_some_iff.1 hp).1
theorem zFl{w:World}{p:Nat}{v:Value}{bs:List Nat}{t:TypeId}{f:Nat×Nat}(h:w.heap[p]?=some (.cells (levC v bs) t f)):w.rangeAt p 1 (bs.map bv):=by
 intro j u hj;simp only[World.cell?,h,levC];simpa[Nat.add_comm]using hj
theorem zQv{w:World}{p:Nat}{v:Value}{bs:List Nat}{t:TypeId}{f:Nat×Nat}(h:w.heap[p]?=some (.cells (levC v bs) t f)):w.cell? ⟨p,0,none⟩=some v:=by
 simp[World.cell?,h,levC]
theorem zEg(n d:Nat):(zE6 n d).length=25:=zCr _
theorem zWu(n d:Nat){j:Nat}(h:j<25):(zE6 n d).getD j 0=dd n d j:=zDn _ h
theorem lev_dead{w:World}{p:Nat}{v:Value}{n d:Nat}{t:TypeId}{f:Nat×Nat}(h:w.heap[p]?=some (.cells (levC v (zE6 n d)) t f)){j:Nat}(hj:j<25):w.cell? ⟨p,1+j,none⟩=some (bv (dd n d j)):=by
 have:=zFl h j (bv (dd n d j)) (by rw[List.getElem?_map,zE6,zH1 _ hj];rfl);simpa using this
theorem zV3(bs:List Nat)(j:Nat)(hj:j<bs.length)(hl:bs.length=25)(w:World):(Instr.index 137 (rV bs) (.int .i64 (j:Int))).run Tryz.prog w = .ok (bv (bs.getD j 0)) w:=by
 obtain⟨i0,hi,hz0,hz1,hz2⟩:=info_parts infoB;have hsz:(sizeOf 5).run Tryz.prog w = .ok 1 w:=by simp[sizeOf,typeInfo,hi,hz1,Result.andThen]
 have hc:(rC bs)[j]?=some (bv (bs.getD j 0)):=by
  simp[rC,List.getD_eq_getElem?_getD,List.getElem?_eq_getElem hj]
 simp[Instr.index,rV,run_underlying Tryz.underlying137,asIntOf,part,hsz,hc,go_sem];omega
def min2(a b:Int):Int:=if b<a then b else a
theorem run_min2(ts:Array TypeId)(ty:TypeId)(k:IntKind)(a b:Int)(w:World):(Builtin.min_ ts ty #[.int k a,.int k b]).run Tryz.prog w = .ok (.int k (min2 a b)) w:=by
 simp[Builtin.min_,Builtin.min2,min2,Sem.run_pure]
attribute [local go_sem ↓] zA7 zCg zA0 zA6 run_min2
attribute [local go_sem] zEo
set_option maxHeartbeats 1000000 in
theorem zLq(p:Nat)(xs:List Int)(d:Nat)(s:List Nat)(w:World)(h:LevAt w p xs d)(hs:s.length=25):
 Calls Tryz.prog 119 #[.pointer (some ⟨p,0,none⟩),rV s] w fun e w'=>e = .returned (rV (cutL xs.length d s))∧Below w.heap.size w w':=by
 obtain⟨hn,hd,ad,cap,hp,hr⟩:=h;have hpl:p<w.heap.size:=(Array.getElem?_eq_some_iff.1 hp).1;obtain⟨w2,hw2⟩:∃w2,(w.alloc (.cells (rC s) 137)).alloc (.cells (rC zeros) 137)=w2:=⟨_,rfl⟩;have A2:Hid (RAt w2 w.heap.size s):=hw2▸(RAt.new w _).old _;have C2:Hid (RAt w2 (w.heap.size+1) zeros):=by
  have:=RAt.new (w.alloc (.cells (rC s) 137)) zeros;rw[zBa]at this;exact hw2▸this
 have B2:Hid (Below w.heap.size w w2):=hw2▸((Below.refl _ w).alloc (Nat.le_refl _) _).alloc (by simp) _;have HW:Hid ((w.alloc (.cells (rC s) 137)).alloc (.cells (rC zeros) 137)=w2):=hw2;have hld:=zBj (zFl ((B2.out.block p hpl).trans hp)) (zEg xs.length d);clear hw2 hr hp;go_enter Tryz.func119,Tryz.ntmps119;go_wp2_with fail;rw[HW.out,hld];clear HW hld;go_wp2_with fail
 go_loopw [11] (fun v wr=>∃k:Nat,v = .int .i64 k∧k≤25∧RAt wr w.heap.size (cutK xs.length d s k)∧RAt wr (w.heap.size+1) zeros∧Below w.heap.size w wr) (fun v _=>25-(intOf v).toNat)
 case atStart=>exact⟨0,rfl,by omega,by rw[zWw hs];exact A2.out,C2.out,B2.out⟩
 case round=>
  clear A2 C2 B2;obtain⟨k,rfl,hk,hA,hC,hB⟩:=hrel;have HA:Hid (RAt wr w.heap.size (cutK xs.length d s k)):=hA;have HC:Hid (RAt wr (w.heap.size+1) zeros):=hC;have HB:Hid (Below w.heap.size w wr):=hB;have hwr:w.heap.size+1<wr.heap.size:=hC.lt;by_cases hk8:k<25
  · have hcell:=hA.cell (i:=k) (by rw[cutK_len];exact hk8)
    rw[cutK_get _ _ _ hk8]at hcell;have hfz:=hA.frozen k;(have hix:=fun w=>zV3 (zE6 xs.length d) k (by rw[zEg];exact hk8) (zEg _ _) w);rw[zWu _ _ hk8]at hix;obtain⟨x,hx⟩:∃x,s.getD k 0=x:=⟨_,rfl⟩;obtain⟨y,hy⟩:∃y,dd xs.length d k=y:=⟨_,rfl⟩;have HM:Hid (min2 (x:Int) (y:Int)=(cutF xs.length d s k:Int)):=by
     unfold Hid min2 cutF;rw[hx,hy];split<;>omega
    rw[hx]at hcell;rw[hy]at hix;clear hA hC hB hx hy;go_wp2_with fail;rw[HM.out]
    go_roundw
    case rel=>
     refine⟨k+1,by go_num,by omega,?_,HC.out.off (by omega),HB.out.setCell (Nat.le_refl _) _⟩;rw[←zWx _ _ _ hk8];exact HA.out.set
    case measure=>simp[intOf];omega
  · obtain rfl:k=25:=by omega
    rw[cutK_end]at hA;have hld:=zBj hA.range (zDt xs.length d s);have hst:=zCj hC zBg (zDt xs.length d s);obtain⟨HP,HO⟩:=hC.put (ys:=cutL xs.length d s) (by rw[zDt,zBg]);have HBS:Hid (Below w.heap.size w (setR wr (w.heap.size+1) (cutL xs.length d s))):=HO.below hB (by omega);obtain⟨w5,hw5⟩:∃w5,setR wr (w.heap.size+1) (cutL xs.length d s)=w5:=⟨_,rfl⟩;rw[hw5]at hst HP HBS;have HST:Hid (RAt w5 (w.heap.size+1) (cutL xs.length d s)):=HP;clear hA hC hB HA HC HB hw5 HO HP;go_wp2_with fail;exact zOh Tryz.results119 rfl (zDt _ _ _) HST.out rfl ⟨rfl,HBS.out⟩
set_option maxHeartbeats 1000000 in
theorem zXt(p:Nat)(xs:List Int)(d:Nat)(w:World)(h:LevAt w p xs d):
 Calls Tryz.prog 76 #[.pointer (some ⟨p,0,none⟩)] w fun e w'=>e = .returned (rV (zFd xs.length d))∧Below w.heap.size w w':=by
 have HL:Hid (LevAt w p xs d):=h;obtain⟨w2,hw2⟩:∃w2,(w.alloc (.cells (rC zeros) 137)).alloc (.cells (rC zeros) 137)=w2:=⟨_,rfl⟩;have A2:Hid (RAt w2 w.heap.size zeros):=hw2▸(RAt.new w _).old _;have C2:Hid (RAt w2 (w.heap.size+1) zeros):=by
  have:=RAt.new (w.alloc (.cells (rC zeros) 137)) zeros;rw[zBa]at this;exact hw2▸this
 have B2:Hid (Below w.heap.size w w2):=hw2▸((Below.refl _ w).alloc (Nat.le_refl _) _).alloc (by simp) _;have HW:Hid ((w.alloc (.cells (rC zeros) 137)).alloc (.cells (rC zeros) 137)=w2):=hw2;clear hw2 h;go_enter Tryz.func76,Tryz.ntmps76;go_wp2_with fail;rw[HW.out];clear HW
 go_loopw [5] (fun v wr=>∃k:Nat,v = .int .i64 k∧k≤25∧RAt wr w.heap.size zeros∧RAt wr (w.heap.size+1) (risK k)∧Below w.heap.size w wr) (fun v _=>25-(intOf v).toNat)
 case atStart=>exact⟨0,rfl,by omega,A2.out,by rw[zT7,←zKf];exact C2.out,B2.out⟩
 case round=>
  clear A2 C2 B2;obtain⟨k,rfl,hk,hA,hC,hB⟩:=hrel;have HA:Hid (RAt wr w.heap.size zeros):=hA;have HC:Hid (RAt wr (w.heap.size+1) (risK k)):=hC;have HB:Hid (Below w.heap.size w wr):=hB;have hwr:w.heap.size+1<wr.heap.size:=hC.lt;by_cases hk8:k<25
  · have hcell:=hC.cell (i:=k) (by rw[risK,zCr];exact hk8)
    have hfz:=hC.frozen k;(have hwk:(k:Int)%256=(k:Int):=by omega);clear hA hC hB;go_wp2_with fail
    go_roundw
    case rel=>
     refine⟨k+1,by go_num,by omega,HA.out.off (by omega),?_,HB.out.setCell (by show w.heap.size≤w.heap.size+1;omega) _⟩;rw[←zT8 hk8];exact HC.out.set
    case measure=>simp[intOf];omega
  · obtain rfl:k=25:=by omega
    rw[risK_end]at hC;have hld:=zBj hC.range (zCr _);have HL2:Hid (LevAt wr p xs d):=HL.out.below hB;have HA2:Hid (RAt wr w.heap.size zeros):=hA;have hB2:Hid (Below w.heap.size w wr):=hB;clear hA hC hB HA HC HB;go_wp2_with (go_at_call 119;refine(zLq p xs d _ _ HL2.out (zCr _)).mono ?_;rintro e w4 ⟨rfl,hb4⟩);have hC4:RAt w4 w.heap.size zeros:=HA2.out.below (by omega) hb4;have hst:=zCj hC4 zBg (zGa xs.length d);obtain⟨HP,HO⟩:=hC4.put (ys:=zFd xs.length d) (by rw[zGa,zBg]);have HBS:Hid (Below w.heap.size w (setR w4 w.heap.size (zFd xs.length d))):=HO.below (hB2.out.trans (hb4.mono (by omega))) (Nat.le_refl _);obtain⟨w5,hw5⟩:∃w5,setR w4 w.heap.size (zFd xs.length d)=w5:=⟨_,rfl⟩;rw[hw5]at hst HP HBS;have HST:Hid (RAt w5 w.heap.size (zFd xs.length d)):=HP;clear hC4 hw5 HO HP;rw[show cutL xs.length d (mk fun j=>j)=zFd xs.length d from rfl];rw[hst];go_wp2_with fail;exact zOh Tryz.results76 rfl (zGa _ _) HST.out rfl ⟨rfl,HBS.out⟩
end
