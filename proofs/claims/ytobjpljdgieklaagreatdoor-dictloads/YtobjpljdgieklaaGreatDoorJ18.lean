import Derived.Test.YtobjpljdgieklaaGreatDoorJ15
import Derived.RangeFuncNested
import Derived.RangeFuncCalls
import Derived.OrdersIn
import Derived.Test.YtobjpljdgieklaaGreatDoorJ7
import Derived.ArgAppend
import Derived.Laws.StructEq
import Derived.Below
import Derived.Carry
import Derived.Handy
set_option maxRecDepth 100000
set_option maxHeartbeats 8000000
namespace Go.Proofs.YtobjpljdgieklaaGreatDoor
section
open Go.RowKit
def zOk(l:List Oper):Bool:=l.all fun o=>match o.op with | .defer _=>false|_=>true
section
variable {F:Fence} {n:Nat} {P:Program} {md:Region.Mode} {ops:Array Oper} {Q:Exit→Act→World→Prop}
theorem zOa{row:String}{args:Array Value}{w:World}{R:Value→World→Prop}(h:Rows P row args w R):RowsIn Fence.wide n P row args w R:=
 fun c cs _=>let⟨v,w',r,s⟩:=h c cs;⟨v,w',r,stepsIn_wide.2 s⟩
theorem zTd{o:Oper}{a:Act}{w:World}{K:Act→World→Prop}(h:o.wp P a w K Q):o.wpIn Fence.wide n P a w K Q:=by
 unfold Oper.wp at h;unfold Oper.wpIn;refine⟨fun _ _=>trivial,?_⟩;show o.uponIn Fence.wide n P a K Q ((o.semAt none a.eval).run P w);rw[Oper.semAt_none];generalize (execOp a.eval o).run P w=r at *;cases r with
 |ok x w'=>
  cases x with
  |enter f args=>exact⟨fun h=>by simp[Fence.wide]at h,callsIn_wide.2 h⟩
  |row r args=>exact⟨fun h=>by simp[Fence.wide]at h,zOa h⟩
  |_=>first|exact h|exact h.elim
 |halt x w'=>cases x<;>first|exact h|exact h.elim
theorem zNy{i:Nat}{a:Act}{w:World}{K:Act→World→Prop}(hlo:¬LetsOut Q)(h:wpOp P ops Q i K a w):wpOpIn Fence.wide n P ops Q i K a w:=by
 unfold wpOp at h;unfold wpOpIn;cases ho:ops[i]? with
 |none=>simp only[ho]at h ⊢;exact h
 |some o=>
  simp only[ho]at h ⊢;by_cases hw:Region.wanted o (yielded ops a.tmps)=true
  · rw[if_pos hw]at h ⊢
    rcases h with h|h
    · exact zTd h
    · exact absurd h.2 hlo
  · rw[if_neg hw]at h ⊢
    exact⟨fun _ _=>trivial,h⟩
theorem zDx(hlo:¬LetsOut Q):∀(fuel:Nat) (listed:Array Bool) (a:Act) (w:World),wpAny P md ops Q fuel listed a w→wpAnyIn Fence.wide n P md ops Q fuel listed a w
 |0,_,_,_,h=>h
 |fuel+1,_,_,_,h=>⟨h.1,fun i hi=>wpOpIn_mono (fun a' w' h'=>zDx hlo fuel _ a' w' h') (zNy hlo (h.2 i hi))⟩
theorem zLr{o:Oper}{a:Act}{w:World}{K:Act→World→Prop}(lp:Nat)(hro:F.round=none)(hd:∀c,o.op ≠ .defer c)(h:o.wpIn F n P a w K Q):o.wpIn (F.inRound lp) n P a w K Q:=by
 unfold Oper.wpIn at *;refine⟨h.1,?_⟩;have h2:=h.2;rw[hro,Oper.semAt_none]at h2;rw[Oper.semAt_eq _ _ _ hd];generalize (execOp a.eval o).run P w=r at *;cases r with
 |ok x w'=>cases x<;>exact h2
 |halt x w'=>cases x<;>exact h2
theorem zCm(lp:Nat)(hro:F.round=none)(hd:zOk ops.toList=true):∀(fuel:Nat) (listed:Array Bool) (a:Act) (w:World),wpAnyIn F n P md ops Q fuel listed a w→wpAnyIn (F.inRound lp) n P md ops Q fuel listed a w
 |0,_,_,_,h=>h
 |fuel+1,listed,a,w,h=>⟨h.1,fun i hi=>by
  refine wpOpIn_mono (fun a' w' h'=>zCm lp hro hd fuel _ a' w' h') ?_;have h2:=h.2 i hi;unfold wpOpIn at *;cases ho:ops[i]? with
  |none=>simp only[ho]at h2 ⊢;exact h2
  |some o=>
   simp only[ho]at h2 ⊢
   split
   · rename_i hw
     rw[if_pos hw]at h2;refine zLr lp hro (fun c hc=>?_) h2;have:=List.all_eq_true.1 hd o (by rw[←Array.mem_def];exact Array.mem_of_getElem? ho);rw[hc]at this;cases this
   · rename_i hw
     rw[if_neg hw]at h2;exact h2⟩
theorem zP6{S:World→Prop}{id lp:Nat}{a:Act}{w:World}(k:Nat)(hk:ops.size=k)(hm:P.follows .mixedOrders=true)(hd:zOk ops.toList=true)(hlo:¬LetsOut Q)(hS:S w.drew)(h:S w.drew→wpAnyH P .any ops Q S k (Array.replicate k false) a w.drew):(Code.region id ops true).wpIn (Fence.wide.inRound lp) n P Q a w:=by
 subst hk;exact wpIn_region_any hm (zCm lp rfl hd _ _ _ _ (zDx hlo _ _ _ _ (wpAny_of_held _ _ _ _ (h hS))))
theorem zT7{S:World→Prop}{id lp:Nat}{a:Act}{w:World}(k z:Nat)(hk:ops.size=k)(hm:P.follows .mixedOrders=true)(hd:zOk ops.toList=true)(hlo:¬LetsOut Q)(h:zBe P .any ops Q S z k (Array.replicate k false) a w.drew):(Code.region id ops true).wpIn (Fence.wide.inRound lp) n P Q a w:=by
 subst hk;exact wpIn_region_any hm (zCm lp rfl hd _ _ _ _ (zDx hlo _ _ _ _ (zF8 _ _ _ _ h)))
end
theorem Upd.putR{W:World}(l:Nat)(o:Obj):Upd (fun k=>k=l) W (W.putObj l o):=
 ⟨rfl,rfl,rfl,by simp,fun k _ hk=>World.putObj_heap_other hk⟩
def roundB(I:Nat→World→Prop)(d k:Nat)(W:World):Exit→Act→World→Prop
 |.normal,_,W'=>(∃G:Nat→Prop,Upd G W W'∧¬G d∧¬G (d+1))∧I (k+1) W'
 |_,_,_=>False
def SeqB(gf:Nat)(lb:Array Value)(enc:Nat→Array Value)(N:Nat)(T:World→Prop):Prop:=
 ∀(yl:Nat) (J:Nat→World→Prop) (W:World),(∀k W,J k W→T W)→(∀k W,k<N→J k W→YieldAt Fence.wide 0 Tryz.prog yl (enc k) W fun e W'=>e = .returned (.bool true)∧J (k+1) W')→J 0 W →
  Calls Tryz.prog gf (#[.func (.yield yl) #[] #[]]++lb) W fun e W'=>(∃v,e = .returned v)∧J N W'
theorem zTf{g:Operand}{ps:Array Tmp}{assign body:Code}{Q:Exit→Act→World→Prop}{a:Act}{w:World}{gf:Nat}{lb:Array Value}{enc:Nat→Array Value}{N:Nat}{T:World→Prop}
 (hg:a.eval g = .func (.func gf) #[] lb) (eg:∀args w,(callFunc gf args).run Tryz.prog w = .ok (.enter gf args) w) (hseq:SeqB gf lb enc N T) (hps:∀k,ps.size=(enc k).size)
 (I:Nat→World→Prop) (hT:∀k W,I k W→T W) (hI:∀k W W',I k W→Upd (fun j=>j=w.heap.size∨j=w.heap.size+1) W W'→I k W') (h0:I 0 w)
 (hround:∀l k W,k<N→I k W→w.heap.size+1<W.heap.size→assign.wpIn (Fence.wide.inRound l) 0 Tryz.prog (Exit.then (fun a1 W1=>Upd (fun _=>False) W W1∧∀W2,Upd (fun j=>j=w.heap.size+1) W1 W2→body.wpIn (Fence.wide.inRound l) 0 Tryz.prog (roundB I w.heap.size k W2) a1 W2) (fun _ _ _=>False)) { tmps:=(ps.zip (enc k)).foldl (fun t (p,v)=>t.setIfInBounds p v) a.tmps,defers:=[] } W)
 (hdone:∀W,I N W→W.heap[w.heap.size]?=some (.deferred (some []))→Q .normal { a with defers:={ target := .collected w.heap.size,args:=#[] }::a.defers } W):
 (Code.rangeFunc g ps assign body).wp Tryz.prog Q a w:=by
 refine(wpIn_wide (n:=0)).1 (wpIn_rangeFunc ?_);intro fn hfn;rw[Fence.wide_round];obtain⟨rec,hrec⟩:∃rec:LoopState→Option Code→Loop,rec=fun st pe=>{ state:=st,pending:=pe,fn,tmps:=a.tmps,params:=ps,assign,body,defers:=w.heap.size }:=⟨_,rfl⟩
 obtain⟨W1,hW1⟩:∃W1,(w.alloc (.deferred (some []))).alloc (.loop (rec .ready none))=W1:=⟨_,rfl⟩;have hL1:W1.heap[w.heap.size+1]?=some (.loop (rec .ready none)):=by
  rw[←hW1];have:=World.alloc_heap_new (w.alloc (.deferred (some []))) (.loop (rec .ready none));rwa [World.size_alloc]at this
 have hK1:W1.heap[w.heap.size]?=some (.deferred (some [])):=by
  rw[←hW1];exact(Below.heap_alloc _ _ _ (by simp)).trans (World.alloc_heap_new w _)
 have hb1:Below w.heap.size w W1:=by rw[←hW1];exact((Below.refl _ w).alloc (Nat.le_refl _) _).alloc (by simp) _
 let J:Nat→World→Prop:=fun k W=>W.heap[w.heap.size+1]?=some (.loop (rec .ready none))∧W.heap[w.heap.size]?=some (.deferred (some []))∧I k W
 refine⟨w.heap.size+1,[{ target := .collected w.heap.size,args:=#[] }],W1,{ target := .fn (.func gf) lb,args:=#[.func (.yield (w.heap.size+1)) #[] #[]] },W1,gf,
  #[.func (.yield (w.heap.size+1)) #[] #[]]++lb,W1,?_,?_,fun _ _=>trivial,?_,fun h=>by simp[Fence.wide]at h,?_⟩
 · rw[←hW1,hrec];exact run_enterLoop_outer _ _ _ _ _
 · simp only[resolve,hg]
   simp[go_sem]
 · simp[invoke,go_sem,eg]
 · refine callsIn_wide.2 ((hseq (w.heap.size+1) J W1 (fun k W h=>hT k W h.2.2) ?_ ⟨hL1,hK1,hI _ _ _ h0 (Upd.of_below hb1)⟩).mono ?_)
   · rintro k W hk ⟨hr,hd,hi⟩
     have hlt:w.heap.size+1<W.heap.size:=(Array.getElem?_eq_some_iff.1 hr).1;have hy:=run_yield (P:=Tryz.prog) (args:=enc k) hr (by rw[hrec];exact(hps k).symm);rw[hrec]at hy;refine⟨fn,_,assign,body,hy,roundIn_of_wpIn hfn (wpIn_mono (hround (w.heap.size+1) k W hk hi hlt) ?_)⟩;clear hy;intro e0 a0 Wa hp0;cases e0 with
     |exit _=>exact hp0.elim
     |goto _=>exact hp0.elim
     |ret=>exact hp0.elim
     |panic _=>exact hp0.elim
     |outgrown=>exact hp0.elim
     |normal=>
     obtain⟨hu0,hbody⟩:=hp0;have hra:Wa.heap[w.heap.size+1]?=some (.loop (rec .ready none)):=(hu0.block _ hlt id).trans hr;have hda:Wa.heap[w.heap.size]?=some (.deferred (some [])):=(hu0.block _ (by omega) id).trans hd;have hlta:w.heap.size+1<Wa.heap.size:=(Array.getElem?_eq_some_iff.1 hra).1;refine⟨_,run_beginRound hra (by rw[hrec]),?_⟩;have hl2:(Wa.putObj (w.heap.size+1) (.loop { rec .ready none with state := .busy })).heap[w.heap.size+1]?=some (.loop { rec .ready none with state := .busy }):=World.putObj_heap_same hlta;have hk2:(Wa.putObj (w.heap.size+1) (.loop { rec .ready none with state := .busy })).heap[w.heap.size]?=some (.deferred (some [])):=(World.putObj_heap_other (by omega)).trans hda;have hbody2:=hbody _ (Upd.putR (W:=Wa) (w.heap.size+1) (.loop { rec .ready none with state := .busy }));clear hbody;generalize (Wa.putObj (w.heap.size+1) (.loop { rec .ready none with state := .busy }))=Wb at hl2 hk2 hbody2;have hszb:w.heap.size+1<Wb.heap.size:=(Array.getElem?_eq_some_iff.1 hl2).1;refine wpIn_mono hbody2 ?_;rintro e a3 W3 hp;cases e with
     |normal=>
      obtain⟨⟨G,hu3,n2,n1⟩,hi3⟩:=hp;have hl3:=(hu3.block _ hszb n1).trans hl2;have hd3:=(hu3.block _ (by omega) n2).trans hk2;have he:=run_endRound (P:=Tryz.prog) none hl3;rw[hrec]at he;refine⟨_,_,he,rfl,?_,(World.putObj_heap_other (by omega)).trans hd3,hI _ _ _ hi3 ((Upd.putR _ _).mono fun k e => .inr e)⟩;rw[hrec];exact World.putObj_heap_same (Array.getElem?_eq_some_iff.1 hl3).1
     |ret=>exact hp.elim
     |exit id=>exact hp.elim
     |goto t=>exact hp.elim
     |panic ch=>exact hp.elim
     |outgrown=>exact hp.elim
   · rintro e W2 ⟨⟨v,rfl⟩,hr,hd,hi⟩
     refine⟨none,_,by have:=run_endLoop (P:=Tryz.prog) hr (by rw[hrec];simp);rw[hrec]at this;exact this,?_⟩;exact hdone _ (hI _ _ _ hi ((Upd.putR _ _).mono fun k e => .inr e)) ((World.putObj_heap_other (by omega)).trans hd)
end
section
open Go.RowKit Nums Ed
def IBlk(w:World)(g:Nat)(cs:List Int):Prop:=w.heap[g]?=some (.cells (cs.map (Value.int .i64)).toArray 3 (0,0))
theorem IBlk.lt{w:World}{g:Nat}{cs:List Int}(h:IBlk w g cs):g<w.heap.size:=(Array.getElem?_eq_some_iff.1 h).1
theorem IBlk.cell{w:World}{g k:Nat}{cs:List Int}{x:Int}(h:IBlk w g cs)(hk:cs[k]?=some x):w.cell? ⟨g,k,none⟩=some (.int .i64 x):=by
 unfold IBlk at h;simp only[World.cell?,h];simp[hk]
theorem IBlk.frozen{w:World}{g:Nat}{cs:List Int}(h:IBlk w g cs)(k:Nat):w.frozen? ⟨g,k,none⟩=false:=by
 unfold IBlk at h;simp only[World.frozen?,h];simp
theorem IBlk.set{w:World}{g:Nat}{cs:List Int}(h:IBlk w g cs)(k:Nat)(x:Int):IBlk (w.setCell ⟨g,k,none⟩ (.int .i64 x)) g (cs.set k x):=by
 unfold IBlk at h ⊢;simp only[World.setCell,Array.getElem?_modify,h];simp[List.map_set]
theorem IBlk.same{w w':World}{g:Nat}{cs:List Int}(h:IBlk w g cs)(e:w'.heap[g]?=w.heap[g]?):IBlk w' g cs:=by
 unfold IBlk at h ⊢;rw[e];exact h
structure But(r:Nat)(w w':World):Prop where
 os:w'.os=w.os
 tape:w'.tape=w.tape
 output:w'.output=w.output
 size:w.heap.size≤w'.heap.size
 block:∀k,k<w.heap.size→k≠r→w'.heap[k]?=w.heap[k]?
theorem But.refl(r:Nat)(w:World):But r w w:=⟨rfl,rfl,rfl,Nat.le_refl _,fun _ _ _=>rfl⟩
theorem But.trans{r:Nat}{a b c:World}(h:But r a b)(k:But r b c):But r a c:=
 ⟨k.os.trans h.os,k.tape.trans h.tape,k.output.trans h.output,Nat.le_trans h.size k.size,fun i hi hr=>(k.block i (Nat.lt_of_lt_of_le hi h.size) hr).trans (h.block i hi hr)⟩
theorem But.of_below{r:Nat}{w w':World}(h:Below w.heap.size w w'):But r w w':=⟨h.os,h.tape,h.output,h.size,fun k hk _=>h.block k hk⟩
theorem But.below{r B:Nat}{w w':World}(h:But r w w')(hr:B≤r)(hB:B≤w.heap.size):Below B w w':=
 ⟨h.os,h.tape,h.output,h.size,fun k hk=>h.block k (by omega) (by omega)⟩
theorem But.setCell{r:Nat}{a w:World}(h:But r a w)(o:Nat)(u:Value):But r a (w.setCell ⟨r,o,none⟩ u):=
 h.trans ⟨rfl,rfl,rfl,by simp[World.setCell],fun k _ hk=>Below.heap_setCell _ _ _ _ hk⟩
theorem IBlk.alloc{w:World}{g:Nat}{cs:List Int}(h:IBlk w g cs)(o:Obj):IBlk (w.alloc o) g cs:=h.same (Below.heap_alloc _ _ _ h.lt)
theorem But.alloc{r:Nat}{a w:World}(h:But r a w)(o:Obj):But r a (w.alloc o):=h.trans (But.of_below ((Below.refl _ w).alloc (Nat.le_refl _) o))
theorem zV1:(Tryz.prog.info? 3).map (fun i=>(i.zero,i.size,i.bytes))=some (some (.int .i64 0),1,8):=by kernel_rfl
theorem zIh{w:World}{g off n cap nb c:Nat}{cs:List Int}{x:Int}(h:IBlk w g cs)(hx:w.cell? ⟨nb,0,none⟩=some (.int .i64 x))(hn:n<cap)(ho:off+n<cs.length)(ty:TypeId):
 (Builtin.append_ #[118,118] ty #[.slice (some ⟨g,off,none⟩) n cap,.slice (some ⟨nb,0,none⟩) 1 c]).run Tryz.prog w = .ok (.slice (some ⟨g,off,none⟩) (n+1) cap) (w.setCell ⟨g,off+n,none⟩ (.int .i64 x)):=by
 obtain⟨i0,hi,hz0,hz1,hz2⟩:=info_parts zV1;have hadd:∀j,(⟨nb,0,none⟩:Addr).add j=⟨nb,0+j,none⟩:=fun j=>by unfold Addr.add;split<;>simp_all
 have hc:w.cell? ⟨g,off+n,none⟩=some (.int .i64 cs[off+n]):=h.cell (List.getElem?_eq_getElem ho);have hr:=run_append_room_cells (P:=Tryz.prog) w 118 ty 3 i0 Tryz.underlying118 hi g off n cap ⟨nb,0,none⟩ 1 c [.int .i64 x] (by rw[hz1];rfl) (fun j u hj=>by
  match j,hj with
  |0,hj=>simp at hj;subst hj;rw[hadd];exact hx) (by simp[Value.oneCell']) (by omega) (fun j hj=>by
   rw[hz1];simp at hj;subst hj;simp[hc]) (fun j hj=>h.frozen _)
 rw[hr,hz1];simp[World.setCells]
theorem zRf{W:World}{ops:Array Oper}{rest:List Oper}{o:Oper}{a:Act}{Q:Exit→Act→World→Prop}(hgd:o.guard=none)(s y:Operand)(T2:TypeId)
 (ho:o.op = .call { callee := .builtin .append,args:=#[s,y],argTypes:=#[118,118] }) (g off n cap c nb:Nat) (cs:List Int) (x:Int) (hs:a.eval s = .slice (some ⟨g,off,none⟩) n cap) (hy:a.eval y = .slice (some ⟨nb,0,none⟩) 1 c) (hnb:nb=W.heap.size) (hB:IBlk W g cs) (hn:n<cap) (hl:off+n<cs.length)
 (h:∀w',IBlk w' g (cs.set (off+n) x)→But g W w'→wpList Tryz.prog ops Q rest (a.put o.dst (.slice (some ⟨g,off,none⟩) (n+1) cap)) w'):wpList Tryz.prog ops Q (o::rest) a (W.alloc (.cells #[.int .i64 x] T2)):=by
 subst hnb;have h1:=zIh (nb:=W.heap.size) (c:=c) (x:=x) (hB.alloc (.cells #[.int .i64 x] T2)) (by simp) hn hl o.type;refine wpList_plain hgd fun _ hK=>?_
 unfold Oper.wp execOp;simp only[ho,resolve,invoke,builtin,Sem.run_bind,Sem.run_pure,Result.andThen_ok,List.map_toArray,List.map_cons,List.map_nil,hs,hy,h1];exact hK _ _ (h _ ((hB.alloc _).set _ _) (((But.refl g W).alloc _).setCell _ _))
theorem Made.runesE{B:Nat}{w:World}{v:Value}{xs:List Int}(h:Made B w v xs):RunesAt w.heap.size w v xs:=by
 obtain⟨hl,hn|⟨g,cap,cur,rfl,hb,hg,h1,h2,h3,h4⟩⟩:=h
 · obtain⟨rfl,h0⟩:=hn
   exact⟨none,0,by rw[h0],fun h=>by omega⟩
 · refine⟨_,_,rfl,fun _=>⟨g,0,rfl,(Array.getElem?_eq_some_iff.1 hg).1,fun i x hi=>?_⟩⟩
   have hi':=(List.getElem?_eq_some_iff.1 hi).1;have hc:cur[i]?=some (.int .i32 x):=by
    (have e:(cur.toList.take (xs.length*1))[i]?=(xs.map (Value.int .i32))[i]?:=by rw[h4]);rw[List.getElem?_take,if_pos (by omega)]at e;rw[←Array.getElem?_toList,e,List.getElem?_map,hi];rfl
   simp only[World.cell?,hg,Nat.zero_add];simpa using hc
theorem RunesAt.form{E:Nat}{w:World}{v:Value}{xs:List Int}(h:RunesAt E w v xs):∃ad cap,v = .slice ad xs.length cap:=by
 obtain⟨ad,cap,e,_⟩:=h;exact⟨ad,cap,e⟩
theorem RunesAt.at{E:Nat}{w:World}{ad:Option Addr}{n cap:Nat}{xs:List Int}(h:RunesAt E w (.slice ad n cap) xs){k:Nat}{x:Int}(hk:xs[k]?=some x):∃g off,ad=some ⟨g,off,none⟩∧g<E∧w.cell? ⟨g,off+k,none⟩=some (.int .i32 x):=by
 obtain⟨ad',cap',e,hc⟩:=h;simp only[Value.slice.injEq]at e;obtain⟨rfl,_,rfl⟩:=e;obtain⟨g,off,rfl,hg,hx⟩:=hc (by have:=(List.getElem?_eq_some_iff.1 hk).1;omega);exact⟨g,off,rfl,hg,hx k x hk⟩
theorem zTo(p ys:List Int){k:Nat}(h:k≤ys.length):(dr p ys).take (k+1)=(dr p ys).take k++[(lv p (ys.take k):Int)]:=by
 rw[List.take_add_one,zM8 _ _ h];rfl
theorem zTm(p ys:List Int){k:Nat}(h:k≤ys.length+1):((dr p ys).take k).length=k:=by rw[List.length_take,zH9];omega
theorem zTv(w:World)(g off cap:Nat)(cs ys:List Int)(hB:IBlk w g cs)(hcap:ys.length<cap)(hl:off+ys.length<cs.length)(hs:ys.length≤100000):
 Calls Tryz.prog 156 #[.slice (some ⟨g,off,none⟩) 0 cap,.int .i64 ys.length] w fun e w'=>e = .returned (.slice (some ⟨g,off,none⟩) (ys.length+1) cap)∧IBlk w' g (lay cs off (dr [] ys))∧But g w w':=by
 obtain⟨n,hn⟩:∃n,n=ys.length:=⟨_,rfl⟩;rw[←hn]at hcap hl hs ⊢;have HN:Hid (n=ys.length):=hn;clear hn;go_enter Tryz.func156,Tryz.ntmps156;go_wp2
 go_loopw [0,8] (fun v i wr=>∃k:Nat,k≤n+1∧i = .int .i64 k∧v = .slice (some ⟨g,off,none⟩) k cap∧IBlk wr g (lay cs off ((dr [] ys).take k))∧But g w wr) (fun _ i _=>n+1-(intOf i).toNat)
 case atStart=>exact⟨0,by omega,rfl,rfl,by rw[List.take_zero,zVk];exact hB,But.refl _ _⟩
 case round=>
  obtain⟨k,hk,rfl,rfl,hI,hbut⟩:=hrel;have HI:Hid (IBlk wr g (lay cs off ((dr [] ys).take k))):=hI;clear hI;by_cases hlt:k<n+1
  · have hlen:Hid (((dr [] ys).take k).length=k):=zTm _ _ (by have:=HN.out;omega)
    have hcl:Hid ((lay cs off ((dr [] ys).take k)).length=cs.length):=zKz (by rw[hlen.out];omega);go_wp2_with (at_builtin;refine zRf rfl _ _ _ rfl g off k cap _ _ (lay cs off ((dr [] ys).take k)) (k:Int) rfl rfl rfl HI.out (by omega) (by rw[hcl.out];omega) ?_);intro w1 hI1 hb1;have HI1:Hid (IBlk w1 g (lay cs off ((dr [] ys).take (k+1)))):=by
     have e:=zOn (cs:=cs) (L:=(dr [] ys).take k) (b:=off) (by rw[hlen.out];omega) (k:Int);rw[hlen.out]at e;rw[e]at hI1;rw[List.take_add_one,dr_start _ (by have:=HN.out;omega)];exact hI1
    clear hI1;go_wp2
    go_roundw
    (case rel=>exact⟨k+1,by omega,by go_num,rfl,HI1.out,hbut.trans hb1⟩);case measure=>simp[intOf];omega
  · obtain rfl:k=n+1:=by omega
    go_wp2;go_ret;refine⟨rfl,?_,hbut⟩;have:=HI.out
    rwa [HN.out,List.take_of_length_le (by rw[zH9];omega)]at this
theorem new_cell(w:World)(v:Value)(T:TypeId):(w.alloc (.cells #[v] T)).cell? ⟨w.heap.size,0,none⟩=some v:=by simp
def min3(a b c:Int):Int:=if c<(if b<a then b else a)then c else (if b<a then b else a)
theorem zKb(ts:Array TypeId)(ty:TypeId)(k:IntKind)(a b c:Int)(w:World):(Builtin.min_ ts ty #[.int k a,.int k b,.int k c]).run Tryz.prog w = .ok (.int k (min3 a b c)) w:=by
 simp[Builtin.min_,Builtin.min2,min3,Sem.run_pure]
theorem zWi{ρ:Operand→Value}{x y z:Operand}{ts:Array TypeId}{dst:Option Tmp}{ty:TypeId}{pos:String}{af:Array Edge}{g:Option (Nat×Bool)}{w:World}{k:IntKind}{a b c:Int}(hx:ρ x = .int k a)(hy:ρ y = .int k b)(hz:ρ z = .int k c):
 (execOp ρ ⟨dst,.call { callee := .builtin .min,args:=#[x,y,z],argTypes:=ts },ty,pos,af,g⟩).run Tryz.prog w = .ok (.value (.int k (min3 a b c))) w:=by
 unfold execOp;simp only[resolve,invoke,builtin,Sem.run_bind,Sem.run_pure,Result.andThen_ok,List.map_toArray,List.map_cons,List.map_nil,hx,hy,hz,zKb]
theorem zWk{P:Program}{ρ:Operand→Value}{x y:Operand}{t:TypeId}{dst:Option Tmp}{ty:TypeId}{pos:String}{af:Array Edge}{g:Option (Nat×Bool)}{w w':World}{v:Value}(h:(Builtin.append_ #[t,t] ty #[ρ x,ρ y]).run P w = .ok v w'):
 (execOp ρ ⟨dst,.call { callee := .builtin .append,args:=#[x,y],argTypes:=#[t,t] },ty,pos,af,g⟩).run P w = .ok (.value v) w':=by
 unfold execOp;simp only[resolve,invoke,builtin,Sem.run_bind,Sem.run_pure,Result.andThen_ok,List.map_toArray,List.map_cons,List.map_nil,h]
theorem next_any(w:World)(g off a cap capa:Nat)(cs p ys:List Int)(r:Int)(vy:Value)(E:Nat)(hB:IBlk w g cs)(hcap:ys.length<cap)(hl:off+ys.length<cs.length)
 (hA:∀j,j≤ys.length→cs[a+j]?=some (lv p (ys.take j):Int)) (hap:a+ys.length<off∨off+ys.length<a) (hy:RunesAt E w vy ys) (hE:E≤g) (hs:ys.length≤100000) (hps:p.length≤100000):
 Calls Tryz.prog 157 #[.slice (some ⟨g,off,none⟩) 0 cap,.slice (some ⟨g,a,none⟩) (ys.length+1) capa,.int .i32 r,vy] w fun e w'=>e = .returned (.slice (some ⟨g,off,none⟩) (ys.length+1) cap)∧IBlk w' g (lay cs off (dr (p++[r]) ys))∧But g w w':=by
 obtain⟨ady,capy,rfl⟩:=hy.form;obtain⟨n,hn⟩:∃n,n=ys.length:=⟨_,rfl⟩;rw[←hn]at hcap hl hs hap hA hy ⊢;have HN:Hid (n=ys.length):=hn;clear hn;have HA:Hid (∀j,j≤n→cs[a+j]?=some (lv p (ys.take j):Int)):=hA;clear hA;have hc0:w.cell? ⟨g,a,none⟩=some (.int .i64 (p.length:Int)):=by
  have:=HA.out 0 (Nat.zero_le _);rw[List.take_zero,zCz]at this;exact hB.cell this
 have HB:Hid (IBlk w g cs):=hB;have hgl:=hB.lt;clear hB;go_enter Tryz.func157,Tryz.ntmps157;go_wp2_with (at_builtin;refine zRf rfl _ _ _ rfl g off 0 cap _ _ cs ((p.length:Int)+1) rfl rfl rfl HB.out (by omega) (by omega) ?_);intro w1 hI1 hb1;have HI1:Hid (IBlk w1 g (lay cs off ((dr (p++[r]) ys).take 1))):=by
  have e:=zOn (cs:=cs) (L:=[]) (b:=off) (by simp;omega) ((p.length:Int)+1);rw[zVk]at e;simp only[List.length_nil,Nat.add_zero]at e;rw[e]at hI1;rw[zTo _ _ (Nat.zero_le _),List.take_zero,List.take_zero,zCz,List.nil_append];exact(by simpa using hI1:IBlk w1 g (lay cs off [((p++[r]).length:Int)]))
 clear hI1 hc0;go_wp2
 go_loopw [0,21] (fun v i wr=>∃k:Nat,k≤n∧i = .int .i64 k∧v = .slice (some ⟨g,off,none⟩) (k+1) cap∧IBlk wr g (lay cs off ((dr (p++[r]) ys).take (k+1)))∧But g w wr) (fun _ i _=>n-(intOf i).toNat)
 case atStart=>exact⟨0,by omega,rfl,rfl,HI1.out,hb1⟩
 case round=>
  obtain⟨k,hk,rfl,rfl,hI,hbut⟩:=hrel;have HI:Hid (IBlk wr g (lay cs off ((dr (p++[r]) ys).take (k+1)))):=hI;clear hI;by_cases hlt:k<n
  · have hlen:Hid (((dr (p++[r]) ys).take (k+1)).length=k+1):=zTm _ _ (by have:=HN.out;omega)
    have hcl:Hid ((lay cs off ((dr (p++[r]) ys).take (k+1))).length=cs.length):=zKz (by rw[hlen.out];omega);(have hky:k<ys.length:=by have:=HN.out;omega);obtain⟨s,hs'⟩:∃s,ys[k]?=some s:=⟨_,List.getElem?_eq_getElem hky⟩;have HS:Hid (ys[k]?=some s):=hs';clear hs';obtain⟨gy,offy,rfl,hgy,hcy⟩:=(hy.below (hbut.below hE (by omega))).at HS.out;have hA0:wr.cell? ⟨g,a+k,none⟩=some (.int .i64 (lv p (ys.take k):Int)):=HI.out.cell (by rw[zVj (by rw[hlen.out];omega) (by rw[hlen.out];omega)];exact HA.out k (by omega));have hA1:wr.cell? ⟨g,a+(k+1),none⟩=some (.int .i64 (lv p (ys.take (k+1)):Int)):=HI.out.cell (by rw[zVj (by rw[hlen.out];omega) (by rw[hlen.out];omega)];exact HA.out (k+1) (by omega));have hR0:wr.cell? ⟨g,off+k,none⟩=some (.int .i64 (lv (p++[r]) (ys.take k):Int)):=HI.out.cell (by rw[zVl (by rw[hlen.out];omega) (by rw[hlen.out];omega),List.getElem?_take,if_pos (by omega),zM8 _ _ (by omega)]);have b0:=dr_bd p ys k;have b1:=dr_bd p ys (k+1);have b2:=dr_bd (p++[r]) ys k;rw[List.length_append,List.length_singleton,←HN.out]at b2;rw[←HN.out]at b0 b1;have HNX:Hid _:=dr_next p ys r HS.out;generalize hd0:lv p (ys.take k)=d0 at *;generalize hd1:lv p (ys.take (k+1))=d1 at *;generalize hd2:lv (p++[r]) (ys.take k)=d2 at *;clear hd0 hd1 hd2;obtain⟨q,hq⟩:∃q,q=k+1:=⟨_,rfl⟩;rw[←hq]at hA1;(have hwq:IntKind.i64.wrap ((k:Int)+1)=(q:Int):=by rw[IntKind.wrap_i64];omega);(have hqn:(q:Int)<(n:Int)+1:=by omega);(have hq0:(0:Int)≤(q:Int):=by omega);(have hkn:(k:Int)<(k:Int)+1:=by omega);have hqt:(q:Int).toNat=q:=rfl;(have hwd1:IntKind.i64.wrap ((d1:Int)+1)=(d1:Int)+1:=by rw[IntKind.wrap_i64];omega);(have hwd2:IntKind.i64.wrap ((d2:Int)+1)=(d2:Int)+1:=by rw[IntKind.wrap_i64];omega);have HQ:Hid (q=k+1):=hq;clear hq;obtain⟨d3,hd3⟩:∃d3,d3=lv (p++[r]) (ys.take (k+1)):=⟨_,rfl⟩;rw[←hd3]at HNX;have HD3:Hid (d3=lv (p++[r]) (ys.take (k+1))):=hd3;clear hd3;have hS0:wr.drew.cell? ⟨g,a+q,none⟩=some (.int .i64 (d1:Int))∧wr.drew.cell? ⟨g,off+k,none⟩=some (.int .i64 (d2:Int)):=⟨hA1,hR0⟩;obtain⟨W4,hW4⟩:∃W4,W4=wr.drew.alloc (.cells #[.int .i64 (d3:Int)] 3):=⟨_,rfl⟩;(have hI4:IBlk W4 g (lay cs off ((dr (p++[r]) ys).take (k+1))):=by rw[hW4];exact IBlk.alloc (w:=wr.drew) HI.out _);have hS4:W4.cell? ⟨g,a+q,none⟩=some (.int .i64 (d1:Int))∧W4.cell? ⟨g,off+k,none⟩=some (.int .i64 (d2:Int)):=by
     (have hb:Below wr.drew.heap.size wr.drew W4:=by rw[hW4];exact(Below.refl _ _).alloc (Nat.le_refl _) _);have hlt':g<wr.drew.heap.size:=HI.out.lt;exact⟨(hb.cell (p:=⟨g,a+q,none⟩) hlt').trans hS0.1,(hb.cell (p:=⟨g,off+k,none⟩) hlt').trans hS0.2⟩
    have hap4:=zIh (x:=(d3:Int)) (nb:=wr.drew.heap.size) (c:=1) (n:=k+1) (cap:=cap) (off:=off) hI4 (by rw[hW4];exact new_cell wr.drew _ _) (by omega) (by rw[hcl.out];omega) 118;obtain⟨W5,hW5⟩:∃W5,W5=W4.setCell ⟨g,off+(k+1),none⟩ (.int .i64 (d3:Int)):=⟨_,rfl⟩;rw[←hW5]at hap4;have HAP:Hid ((Builtin.append_ #[118,118] 118 #[.slice (some ⟨g,off,none⟩) (k+1) cap,.slice (some ⟨wr.drew.heap.size,0,none⟩) 1 1]).run Tryz.prog W4 = .ok (.slice (some ⟨g,off,none⟩) (k+1+1) cap) W5):=hap4;have hS5:W5.cell? ⟨g,a+q,none⟩=some (.int .i64 (d1:Int))∧W5.cell? ⟨g,off+k,none⟩=some (.int .i64 (d2:Int)):=by
     rw[hW5];refine⟨?_,?_⟩
     · rw[World.cell?_setCell_other _ _ _ _ (by intro e;have h2:off+(k+1)=a+q:=congrArg Addr.off e;have:=HQ.out;omega)];exact hS4.1
     · rw[World.cell?_setCell_other _ _ _ _ (by simp)];exact hS4.2
    have HB5:Hid (But g wr W5):=by
     show But g wr W5;rw[hW5];refine But.setCell ?_ _ _;rw[hW4];exact((show But g wr wr.drew from⟨rfl,rfl,rfl,Nat.le_refl _,fun _ _ _=>rfl⟩).alloc _)
    have HI5:Hid (IBlk W5 g (lay cs off ((dr (p++[r]) ys).take (k+1+1)))):=by
     show IBlk W5 g (lay cs off ((dr (p++[r]) ys).take (k+1+1)));have e:=zOn (cs:=cs) (L:=(dr (p++[r]) ys).take (k+1)) (b:=off) (by rw[hlen.out];omega) (d3:Int);rw[hlen.out]at e;rw[zTo (p++[r]) ys (k:=k+1) (by have:=HN.out;omega),←HD3.out,←e,hW5];exact hI4.set _ _
    have HW5:Hid (W5=W4.setCell ⟨g,off+(k+1),none⟩ (.int .i64 (d3:Int))):=hW5;clear hW5 hI4 hap4;by_cases hsr:s=r
    focus
     subst hsr;have HM:Hid (min3 (d0:Int) ((d1:Int)+1) ((d2:Int)+1)=(d3:Int)):=by
      have:=HNX.out;rw[if_pos rfl]at this;unfold Hid min3
      split<;>split at*<;> omega
     go_wp2
    rotate_left
    focus
     (have hsb:(s != r)=true:=by simpa using hsr);(have hwd0:IntKind.i64.wrap ((d0:Int)+1)=(d0:Int)+1:=by rw[IntKind.wrap_i64];omega);have HM:Hid (min3 ((d0:Int)+1) ((d1:Int)+1) ((d2:Int)+1)=(d3:Int)):=by
      have:=HNX.out;rw[if_neg hsr]at this;unfold Hid min3
      split<;>split at*<;> omega
     clear hsr;go_wp2
    all_goals
     refine zAf (S:=fun W=>W.cell? ⟨g,a+q,none⟩=some (.int .i64 (d1:Int))∧W.cell? ⟨g,off+k,none⟩=some (.int .i64 (d2:Int))) 17 rfl zAn hS0 (fun _=>?_);refine tq4 id 0 35 1 36 2 37 3 38 ?_;simp only[sZa,sZb,sZc];refine tq4 id 4 39 5 40 6 41 7 42 ?_;simp only[sZa,sZb,sZc];refine tq4 id 8 43 9 44 10 45 11 46 ?_;simp only[sZa,sZb,sZc];refine tq id 12 47 ?_;simp only[sZa,sZb,sZc];refine zAo (i:=13) (v := .int .i64 (d3:Int)) (w':=wr.drew) 48 (by kernel_rfl) rfl rfl (by rfl) ((zWi rfl rfl rfl).trans (by rw[HM.out])) hS0 (fun _=>?_);simp only[sZa,sZb,sZc];refine zAo (i:=14) (v := .slice (some ⟨wr.drew.heap.size,0,none⟩) 1 1) (w':=W4) 49 (by kernel_rfl) rfl rfl (by rfl) (by rw[hW4];go_simp;first|done|exact rfl) hS4 (fun _=>?_);simp only[sZa,sZb,sZc];refine zAo (i:=15) (v := .slice (some ⟨g,off,none⟩) (k+1+1) cap) (w':=W5) 50 (by kernel_rfl) rfl rfl (by rfl) (zWk HAP.out) hS5 (fun _=>?_);simp only[sZa,sZb,sZc];refine zAo (i:=16) (v := .slice (some ⟨g,off,none⟩) (k+1+1) cap) (w':=W5) 0 (by kernel_rfl) rfl rfl (by rfl) (by kernel_rfl) hS5 (fun _=>?_);simp only[List.setIfInBounds_toArray,List.set_cons_zero];refine wpAnyH_done (by kernel_rfl) ?_ _;clear HAP hS0 hS4 hS5 hA0 hA1 hR0 hcy HM hW4 HW5;go_wp2
     go_roundw
     (case rel=>exact⟨k+1,by omega,by rw[HQ.out],rfl,HI5.out,hbut.trans HB5.out⟩);case measure=>simp[intOf];have:=HQ.out;omega
  · obtain rfl:k=n:=by omega
    go_wp2;go_ret;refine⟨rfl,?_,hbut⟩;have:=HI.out
    rwa [HN.out,List.take_of_length_le (by rw[zH9];omega)]at this
end
section
open Go.RowKit Go.Lib Nums Pm
namespace Bt
def cellsM(m:Mt):List Value:=[.string m.1,.int .i64 m.2.1,.int .i64 m.2.2]
def valM(m:Mt):Value := .agg #[.string m.1,.int .i64 m.2.1,.int .i64 m.2.2]
theorem rtyM:RTy 74 50 3 32:=⟨by kernel_rfl,⟨.agg #[.string .empty,.int .i64 0,.int .i64 0],by kernel_rfl,rfl⟩,by decide,by decide⟩
theorem rtyMp:RTy 74 193 3 32:=⟨by kernel_rfl,⟨.agg #[.string .empty,.int .i64 0,.int .i64 0],by kernel_rfl,rfl⟩,by decide,by decide⟩
theorem cellsM_ok(m:Mt):zGr 3 (cellsM m):=⟨rfl,by intro u hu;simp[cellsM]at hu;rcases hu with rfl|rfl|rfl<;>rfl⟩
theorem belowN{B:Nat}{a w:World}(h:Below B a w)(n:Nat):Below B a (w.drewN n):=⟨h.os,h.tape,h.output,h.size,h.block⟩
theorem zHl(w:World)(o o':Obj):Below w.heap.size w ((w.alloc o).alloc o'):=((Below.refl _ w).alloc (Nat.le_refl _) o).alloc (by simp) o'
theorem zJv(a b:Mt)(w:World):Calls Tryz.prog 126 #[valM a,valM b] w fun e w'=>e = .returned (.bool (btr a b))∧Below w.heap.size w w':=by
 have HL:=fun W=>zDc a.1 b.1 W
 have HC:Hid (btr a b=if a.2.2=b.2.2 then (if a.2.1=b.2.1 then zAa a.1 b.1 else decide (b.2.1<a.2.1))else decide (a.2.2<b.2.2)):=rfl;by_cases h1:a.2.2=b.2.2
 · have hn1:(a.2.2 != b.2.2)=false:=by simpa using h1
   by_cases h2:a.2.1=b.2.1
   · have hn2:(a.2.1 != b.2.1)=false:=by simpa using h2
     rw[if_pos h1,if_pos h2]at HC;clear h1 h2;unfold valM;go_enter Tryz.func126,Tryz.ntmps126;go_wp2_with (go_at_call 100;refine(HL _).mono ?_;rintro e w' ⟨rfl,rfl⟩);go_ret;exact⟨by rw[HC.out];rfl,zHl _ _ _⟩
   · have hn2:(a.2.1 != b.2.1)=true:=by simpa using h2
     rw[if_pos h1,if_neg h2]at HC;clear h1 h2;unfold valM;go_enter Tryz.func126,Tryz.ntmps126;go_wp2;go_ret;exact⟨by rw[HC.out];rfl,zHl _ _ _⟩
 · have hn1:(a.2.2 != b.2.2)=true:=by simpa using h1
   rw[if_neg h1]at HC;clear h1;unfold valM;go_enter Tryz.func126,Tryz.ntmps126;go_wp2;go_ret;exact⟨by rw[HC.out];rfl,zHl _ _ _⟩
def zFo(P:Program)(x:Value)(w:World):Result Value:=(Instr.loadAt 74 x).run P w
def zC9(P:Program)(x y:Value)(w:World):Result Unit:=(Instr.storeAt 74 x y).run P w
section
variable (ρ:Operand→Value) (x y:Operand) (dst:Option Tmp) (ty:TypeId) (pos:String) (af:Array Edge) (g:Option (Nat×Bool)) (w:World)
theorem zB8:(execOp ρ ⟨dst,.load 74 x,ty,pos,af,g⟩).run Tryz.prog w=(zFo Tryz.prog (ρ x) w).andThen (fun v w' => .ok (.value v) w'):=by
 simp only[execOp,Sem.run_bind,zFo,Sem.run_pure]
theorem zBu:(execOp ρ ⟨dst,.store 74 x y,ty,pos,af,g⟩).run Tryz.prog w=(zC9 Tryz.prog (ρ x) (ρ y) w).andThen (fun _ w' => .ok .skip w'):=by
 simp only[execOp,Sem.run_bind,zC9,Sem.run_pure]
end
theorem zDp{w:World}{b o:Nat}{x:Mt}(h0:w.cell? ⟨b,o,none⟩=some (.string x.1))(h1:w.cell? ⟨b,o+1,none⟩=some (.int .i64 x.2.1))(h2:w.cell? ⟨b,o+2,none⟩=some (.int .i64 x.2.2)):zFo Tryz.prog (.pointer (some ⟨b,o,none⟩)) w = .ok (valM x) w:=by
 unfold zFo valM;simp[go_sem,h0,h1,h2];try rfl
theorem zC8{w:World}{b o:Nat}{x:Mt}{u v z:Value}(h0:w.cell? ⟨b,o,none⟩=some u)(h1:w.cell? ⟨b,o+1,none⟩=some v)(h2:w.cell? ⟨b,o+2,none⟩=some z)(f0:w.frozen? ⟨b,o,none⟩=false)(f1:w.frozen? ⟨b,o+1,none⟩=false)(f2:w.frozen? ⟨b,o+2,none⟩=false):zC9 Tryz.prog (.pointer (some ⟨b,o,none⟩)) (valM x) w = .ok () (w.setCells b o (cellsM x)):=by
 unfold zC9 valM;simp[go_sem,h0,h1,h2,f0,f1,f2,cellsM,World.setCells];try rfl
structure Upd(F:Nat→Prop)(w w':World):Prop where
 os:w'.os=w.os
 tape:w'.tape=w.tape
 output:w'.output=w.output
 size:w.heap.size≤w'.heap.size
 block:∀k,k<w.heap.size→¬F k→w'.heap[k]?=w.heap[k]?
theorem Upd.refl(F:Nat→Prop)(w:World):Upd F w w:=⟨rfl,rfl,rfl,Nat.le_refl _,fun _ _ _=>rfl⟩
theorem Upd.trans{F G:Nat→Prop}{a b c:World}(h1:Upd F a b)(h2:Upd G b c)(hG:∀k,k<a.heap.size→G k→F k):Upd F a c:=
 ⟨h2.os.trans h1.os,h2.tape.trans h1.tape,h2.output.trans h1.output,Nat.le_trans h1.size h2.size,fun k hk hF=>(h2.block k (Nat.lt_of_lt_of_le hk h1.size) (fun g=>hF (hG k hk g))).trans (h1.block k hk hF)⟩
theorem Upd.mono{F G:Nat→Prop}{a b:World}(h:Upd F a b)(hG:∀k,F k→G k):Upd G a b:=⟨h.os,h.tape,h.output,h.size,fun k hk hF=>h.block k hk (fun f=>hF (hG k f))⟩
theorem Upd.below{F:Nat→Prop}{w w':World}(h:Upd F w w'){B:Nat}(hF:∀k,F k→B≤k)(hB:B≤w.heap.size):Below B w w':=
 ⟨h.os,h.tape,h.output,h.size,fun k hk=>h.block k (by omega) (fun f=>by have:=hF k f;omega)⟩
theorem zAk{F:Nat→Prop}{w w':World}(h:Below w.heap.size w w'):Upd F w w':=⟨h.os,h.tape,h.output,h.size,fun k hk _=>h.block k hk⟩
theorem Upd.drew{F:Nat→Prop}{w w':World}(h:Upd F w w'):Upd F w w'.drew:=⟨h.os,h.tape,h.output,h.size,h.block⟩
theorem Upd.setCell{F:Nat→Prop}{w w':World}(h:Upd F w w'){a:Addr}(ha:F a.block)(u:Value):Upd F w (w'.setCell a u):=
 h.trans (G:=F) ⟨rfl,rfl,rfl,by simp[World.setCell],fun k _ hk=>Below.heap_setCell _ _ _ _ (fun e=>hk (e▸ha))⟩ (fun _ _ h=>h)
theorem Upd.setCells{F:Nat→Prop}{w:World}{g:Nat}(hg:F g):∀(vs:List Value) (o:Nat) {w':World},Upd F w w'→Upd F w (w'.setCells g o vs)
 |[],_,_,h=>h
 |v::r,o,_,h=>Upd.setCells hg r (o+1) (h.setCell (a:=⟨g,o,none⟩) hg v)
theorem Upd.grown{F:Nat→Prop}{w w' w'':World}{row:Option Nat}(h:Upd F w w')(hg:w'.grownBy w'' row)(hr:∀k,k<w.heap.size→row=some k→F k):Upd F w w'':=
 h.trans (G:=fun k=>row=some k) ⟨hg.os,hg.tape,hg.output,hg.size,fun k hk hk2=>hg.block k hk (fun e=>hk2 e.symm)⟩ hr
def setM:List Value→Nat→List Value→List Value
 |xs,_,[]=>xs
 |xs,o,v::r=>setM (xs.set o v) (o+1) r
theorem zFk{base g n cap size:Nat}{e:TypeId}:∀(vs:List Value) (o:Nat) (w:World) (xs:List Value),w.ownsRow base e size (.slice (some ⟨g,0,none⟩) n cap) n xs→(w.setCells g o vs).ownsRow base e size (.slice (some ⟨g,0,none⟩) n cap) n (setM xs o vs)
 |[],_,_,_,h=>h
 |v::r,o,_,_,h=>zFk r (o+1) _ _ (h.stored o v).1
theorem zI7(A:List Value):∀(x y R:List Value),x.length=y.length→setM (A++(y++R)) A.length x=A++(x++R)
 |[],[],_,_=>rfl
 |v::r,u::s,R,h=>by
  have:=zI7 (A++[v]) r s R (by simpa using h);rw[setM];simp only[List.length_append,List.length_cons,List.length_nil,Nat.zero_add,List.append_assoc,List.singleton_append]at this;rw[show(A++(u::s++R)).set A.length v=A++v::(s++R)by simp,this];rfl
termination_by x=>x.length
theorem zL7{k:Nat}(A:List Value):∀(xss:List (List Value)) (i:Nat) (x:List Value),(∀y∈xss,y.length=k)→x.length=k→i<xss.length→setM (A++xss.flatten) (A.length+i*k) x=A++(xss.set i x).flatten
 |y::r,0,x,hk,hx,_=>by
  rw[Nat.zero_mul,Nat.add_zero,List.flatten_cons,zI7 A x y _ (by rw[hx,hk y (by simp)])];simp
 |y::r,i+1,x,hk,hx,hi=>by
  have:=zL7 (A++y) r i x (fun z hz=>hk z (by simp[hz])) hx (by simpa using hi);rw[List.length_append,hk y (by simp)]at this;rw[List.flatten_cons,←List.append_assoc,show A.length+(i+1)*k=A.length+k+i*k by rw[Nat.add_mul];omega,this];simp
theorem GOwn.put{T:TypeId}{k B g n cap:Nat}{w:World}{xss:List (List Value)}(h:GOwn T k B w (.slice (some ⟨g,0,none⟩) n cap) xss)(hn:n=xss.length)(i:Nat)(hi:i<xss.length)(x:List Value)(hx:zGr k x):GOwn T k B (w.setCells g (i*k) x) (.slice (some ⟨g,0,none⟩) n cap) (xss.set i x):=by
 subst hn;refine⟨fun y hy=>?_,?_⟩
 · rcases List.mem_or_eq_of_mem_set hy with hy|rfl
   · exact h.1 y hy
   · exact hx
 · have h1:=zFk x (i*k) w _ h.2
   have h2:=zL7 (k:=k) [] xss i x (fun y hy=>(h.1 y hy).1) hx.1 hi;simp only[List.nil_append,List.length_nil,Nat.zero_add]at h2;rw[h2]at h1;rw[List.length_set];exact h1
theorem GOwn.upd{T:TypeId}{k B:Nat}{w w':World}{v:Value}{xss:List (List Value)}{F:Nat→Prop}(h:GOwn T k B w v xss)(u:Upd F w w')(hF:∀g,v.ownBlock=some g→¬F g):GOwn T k B w' v xss:=
 h.same fun g hg=>u.block g (h.lt hg) (hF g hg)
theorem GOwn.mt{B:Nat}{w:World}{v:Value}{h:List Mt}(H:GOwn 74 3 B w v (h.map cellsM))(h0:0<h.length):∃g cap,v = .slice (some ⟨g,0,none⟩) h.length cap∧g<w.heap.size∧B≤g∧h.length≤cap∧∀i,i<h.length→w.cell? ⟨g,i*3,none⟩=some (.string (el h i).1)∧w.cell? ⟨g,i*3+1,none⟩=some (.int .i64 (el h i).2.1)∧w.cell? ⟨g,i*3+2,none⟩=some (.int .i64 (el h i).2.2)∧w.frozen? ⟨g,i*3,none⟩=false∧w.frozen? ⟨g,i*3+1,none⟩=false∧w.frozen? ⟨g,i*3+2,none⟩=false:=by
 obtain⟨g,cap,hv,h1,h2,h3,h4⟩:=H.cell (by rw[List.length_map];exact h0);rw[List.length_map]at hv h3;refine⟨g,cap,hv,h1,h2,h3,fun i hi=>?_⟩;have e:(h.map cellsM)[i]?=some (cellsM (el h i)):=by rw[List.getElem?_map,zWm hi];rfl
 have hf:∀j,w.frozen? ⟨g,j,none⟩=false:=fun j=>by
  have:=H.2;rw[hv,List.length_map]at this;exact this.frozenAt j
 exact⟨h4 i 0 _ _ e rfl,h4 i 1 _ _ e rfl,h4 i 2 _ _ e rfl,hf _,hf _,hf _⟩
theorem map_set(h:List Mt)(i:Nat)(x:Mt):(h.set i x).map cellsM=(h.map cellsM).set i (cellsM x):=List.map_set ..
theorem zMl:Tryz.prog.follows .mixedOrders=true:=by kernel_rfl
end Bt
end
section
open Go.RowKit Go.Lib Nums Pm
namespace Bt
theorem zLj(w:World)(ad:Option Addr)(n cap:Nat):Calls Tryz.prog 160 #[.slice ad n cap] w fun e w'=>e = .returned (.int .i64 n)∧w'=w:=by
 go_enter Tryz.func160,Tryz.ntmps160;go_wp2;go_ret;exact⟨rfl,rfl⟩
structure S2(g a b:Nat)(x y:Mt)(W:World):Prop where
 a0:W.cell? ⟨g,a,none⟩=some (.string x.1)
 a1:W.cell? ⟨g,a+1,none⟩=some (.int .i64 x.2.1)
 a2:W.cell? ⟨g,a+2,none⟩=some (.int .i64 x.2.2)
 b0:W.cell? ⟨g,b,none⟩=some (.string y.1)
 b1:W.cell? ⟨g,b+1,none⟩=some (.int .i64 y.2.1)
 b2:W.cell? ⟨g,b+2,none⟩=some (.int .i64 y.2.2)
theorem S2.facts{g a b:Nat}{x y:Mt}{W:World}(h:S2 g a b x y W):W.cell? ⟨g,a,none⟩=some (.string x.1)∧W.cell? ⟨g,a+1,none⟩=some (.int .i64 x.2.1)∧W.cell? ⟨g,a+2,none⟩=some (.int .i64 x.2.2)∧W.cell? ⟨g,b,none⟩=some (.string y.1)∧W.cell? ⟨g,b+1,none⟩=some (.int .i64 y.2.1)∧W.cell? ⟨g,b+2,none⟩=some (.int .i64 y.2.2):=⟨h.a0,h.a1,h.a2,h.b0,h.b1,h.b2⟩
theorem S2.below{g a b:Nat}{x y:Mt}{W W':World}(h:S2 g a b x y W)(hg:g<W.heap.size)(hb:Below W.heap.size W W'):S2 g a b x y W':=
 ⟨(hb.cell (p:=⟨g,a,none⟩) hg).trans h.a0,(hb.cell (p:=⟨g,a+1,none⟩) hg).trans h.a1,(hb.cell (p:=⟨g,a+2,none⟩) hg).trans h.a2,(hb.cell (p:=⟨g,b,none⟩) hg).trans h.b0,(hb.cell (p:=⟨g,b+1,none⟩) hg).trans h.b1,(hb.cell (p:=⟨g,b+2,none⟩) hg).trans h.b2⟩
theorem zLl(B:Nat)(w:World)(v:Value)(h:List Mt)(H:GOwn 74 3 B w v (h.map cellsM))(i j:Nat)(hi:i<h.length)(hj:j<h.length)(hl:h.length<4611686018427387904):
 Calls Tryz.prog 220 #[v,.int .i64 i,.int .i64 j] w fun e w'=>e = .returned (.bool (btr (el h j) (el h i)))∧Below w.heap.size w w':=by
 obtain⟨g,cap,rfl,hg,_,hcap,hc⟩:=GOwn.mt H (by omega);obtain⟨i0,i1,i2,_⟩:=hc i hi;obtain⟨j0,j1,j2,_⟩:=hc j hj;have hS0:S2 g (j*3) (i*3) (el h j) (el h i) w.drew:=⟨j0,j1,j2,i0,i1,i2⟩;have HB:=fun W=>zJv (el h j) (el h i) W
 have hiz:(i:Int)<(h.length:Int):=by omega
 have hjz:(j:Int)<(h.length:Int):=by omega
 generalize el h j=y at HB hS0 ⊢;generalize el h i=x at HB hS0 ⊢;generalize h.length=n at hiz hjz hcap hl ⊢;clear H hc i0 i1 i2 j0 j1 j2 hi hj;go_enter Tryz.func220,Tryz.ntmps220;go_wp2_with fail;refine zAf (S:=S2 g (j*3) (i*3) y x) 10 rfl zMl hS0 (fun _=>?_);refine tq4 S2.facts 0 7 1 8 2 9 3 10 ?_;simp only[sZa,sZb,sZc];refine tq4 S2.facts 4 11 5 12 6 13 7 14 ?_;simp only[sZa,sZb,sZc];refine zFm (i:=8) (w0:=w.drew) 15 126 #[valM y,valM x] (by kernel_rfl) rfl rfl (by rfl) (by kernel_rfl) ((HB w.drew).mono ?_);rintro e w1 ⟨rfl,hb⟩;have hS1:S2 g (j*3) (i*3) y x w1:=hS0.below hg hb;refine⟨_,rfl,hS1,fun _=>?_⟩;simp only[sZa,sZb,sZc];refine zAo (i:=9) (v := .bool (btr y x)) (w':=w1) 6 (by kernel_rfl) rfl rfl (by rfl) (by kernel_rfl) hS1 (fun _=>?_);simp only[sZa,sZb,sZc];refine wpAnyH_done (by kernel_rfl) ?_ _;go_wp2;go_ret;exact⟨rfl,(Below.refl _ w).drew.trans hb⟩
attribute [local go_sem ↓] zB8 zBu
theorem zLh(B:Nat)(w:World)(v:Value)(h:List Mt)(H:GOwn 74 3 B w v (h.map cellsM))(i j:Nat)(hi:i<h.length)(hj:j<h.length)(hl:h.length<4611686018427387904):
 Calls Tryz.prog 221 #[v,.int .i64 i,.int .i64 j] w fun e w'=>e = .returned (.tuple #[])∧GOwn 74 3 B w' v ((swp h i j).map cellsM)∧Upd (fun k=>v.ownBlock=some k) w w':=by
 obtain⟨g,cap,rfl,hg,_,hcap,hc⟩:=GOwn.mt H (by omega);obtain⟨i0,i1,i2,f0,f1,f2⟩:=hc i hi;obtain⟨j0,j1,j2,_⟩:=hc j hj;have hiz:(i:Int)<(h.length:Int):=by omega
 have hjz:(j:Int)<(h.length:Int):=by omega
 have H1:GOwn 74 3 B (w.drew.setCells g (i*3) (cellsM (el h j))) (.slice (some ⟨g,0,none⟩) h.length cap) ((h.set i (el h j)).map cellsM):=by
  rw[map_set];exact GOwn.put (w:=w.drew) H (by simp) i (by simpa using hi) _ (cellsM_ok _)
 have H2:GOwn 74 3 B ((w.drew.setCells g (i*3) (cellsM (el h j))).setCells g (j*3) (cellsM (el h i))) (.slice (some ⟨g,0,none⟩) h.length cap) ((swp h i j).map cellsM):=by
  unfold swp;rw[map_set];exact GOwn.put H1 (by simp) j (by simpa using hj) _ (cellsM_ok _)
 have HU:Upd (fun k=>(Value.slice (some ⟨g,0,none⟩) h.length cap).ownBlock=some k) w ((w.drew.setCells g (i*3) (cellsM (el h j))).setCells g (j*3) (cellsM (el h i))):=Upd.setCells (F:=fun k=>(Value.slice (some ⟨g,0,none⟩) h.length cap).ownBlock=some k) (g:=g) rfl _ _ (Upd.setCells (F:=fun k=>(Value.slice (some ⟨g,0,none⟩) h.length cap).ownBlock=some k) (g:=g) rfl _ _ (Upd.refl _ w).drew);have li:zFo Tryz.prog (.pointer (some ⟨g,i*3,none⟩)) w.drew = .ok (valM (el h i)) w.drew:=zDp i0 i1 i2;have lj:zFo Tryz.prog (.pointer (some ⟨g,j*3,none⟩)) w.drew = .ok (valM (el h j)) w.drew:=zDp j0 j1 j2;have si:zC9 Tryz.prog (.pointer (some ⟨g,i*3,none⟩)) (valM (el h j)) w.drew = .ok () (w.drew.setCells g (i*3) (cellsM (el h j))):=zC8 i0 i1 i2 f0 f1 f2;have sj:zC9 Tryz.prog (.pointer (some ⟨g,j*3,none⟩)) (valM (el h i)) (w.drew.setCells g (i*3) (cellsM (el h j))) = .ok () ((w.drew.setCells g (i*3) (cellsM (el h j))).setCells g (j*3) (cellsM (el h i))):=by
  obtain⟨g',cap',hv,_,_,_,hc'⟩:=GOwn.mt H1 (by simp;omega);simp only[Value.slice.injEq,Option.some.injEq,Addr.mk.injEq,and_true]at hv;obtain⟨rfl,_,_⟩:=hv;obtain⟨k0,k1,k2,e0,e1,e2⟩:=hc' j (by simpa using hj);exact zC8 k0 k1 k2 e0 e1 e2
 have mixed:=zMl;have HG:Hid (GOwn 74 3 B ((w.drew.setCells g (i*3) (cellsM (el h j))).setCells g (j*3) (cellsM (el h i))) (.slice (some ⟨g,0,none⟩) h.length cap) ((swp h i j).map cellsM)):=H2;have HUU:Hid (Upd (fun k=>(Value.slice (some ⟨g,0,none⟩) h.length cap).ownBlock=some k) w ((w.drew.setCells g (i*3) (cellsM (el h j))).setCells g (j*3) (cellsM (el h i)))):=HU;generalize (swp h i j).map cellsM=hs at HG ⊢;generalize el h j=y at lj si sj HG HUU;generalize el h i=x at li sj HG HUU;generalize h.length=n at hiz hjz hcap hl HG HUU ⊢;clear H hc i0 i1 i2 j0 j1 j2 hi hj H1 H2 HU f0 f1 f2;go_enter Tryz.func221,Tryz.ntmps221;go_wp2_with fail
 go_big_region_o
 go_wp2;go_returns;exact⟨rfl,HG.out,HUU.out⟩
end Bt
end
section
open Go.RowKit Go.Lib Nums Pm
namespace Bt
structure KAt(B:Nat)(w:World)(p:Nat)(room:Int)(v:Value)(h:List Mt):Prop where
 low:B≤p
 lt:p<w.heap.size
 c0:w.cell? ⟨p,0,none⟩=some (.int .i64 room)
 c1:w.cell? ⟨p,1,none⟩=some v
 f1:w.frozen? ⟨p,1,none⟩=false
 row:GOwn 74 3 B w v (h.map cellsM)
 ap:v.ownBlock≠some p
def KF(p:Nat)(v:Value)(k:Nat):Prop:=k=p∨v.ownBlock=some k
theorem KAt.form{B:Nat}{w:World}{p:Nat}{room:Int}{v:Value}{h:List Mt}(K:KAt B w p room v h):∃ad cap,v = .slice ad h.length cap:=by
 obtain⟨ad,cap,e,_⟩:=K.row.shape;exact⟨ad,cap,by rw[e,List.length_map]⟩
theorem KAt.upd{B:Nat}{w w':World}{p:Nat}{room:Int}{v:Value}{h:List Mt}{F:Nat→Prop}(K:KAt B w p room v h)(u:Upd F w w')(hF:∀k,KF p v k→¬F k):KAt B w' p room v h:=by
 have hp:=u.block p K.lt (hF p (.inl rfl));exact⟨K.low,Nat.lt_of_lt_of_le K.lt u.size,(World.cell?_of_block (w:=w) hp).trans K.c0,(World.cell?_of_block (w:=w) hp).trans K.c1,(World.frozen?_of_block (w:=w) hp).trans K.f1,GOwn.upd K.row u (fun g hg=>hF g (.inr hg)),K.ap⟩
theorem KAt.below{B:Nat}{w w':World}{p:Nat}{room:Int}{v:Value}{h:List Mt}(K:KAt B w p room v h)(hb:Below w.heap.size w w'):KAt B w' p room v h:=
 K.upd (F:=fun _=>False) (zAk hb) (fun _ _ h=>h)
theorem KF.low{B:Nat}{w:World}{p:Nat}{room:Int}{v:Value}{h:List Mt}(K:KAt B w p room v h){k:Nat}(hk:KF p v k):B≤k:=by
 rcases hk with rfl|hk
 · exact K.low
 · exact(K.row.block hk).1
theorem KAt.lay{B:Nat}{w w':World}{p:Nat}{room:Int}{v v':Value}{h h':List Mt}{F:Nat→Prop}(K:KAt B w p room v h)(u:Upd F w w')(hF:¬F p)(ho:GOwn 74 3 B w' v' (h'.map cellsM))(ha:v'.ownBlock≠some p):KAt B (w'.setCell ⟨p,1,none⟩ v') p room v' h':=by
 have hp:=u.block p K.lt hF;have hlt:=Nat.lt_of_lt_of_le K.lt u.size;have c0:=(World.cell?_of_block (w:=w) (w':=w') (a:=⟨p,0,none⟩) hp).trans K.c0;have c1:=(World.cell?_of_block (w:=w) (w':=w') (a:=⟨p,1,none⟩) hp).trans K.c1;have f1:=(World.frozen?_of_block (w:=w) (w':=w') (a:=⟨p,1,none⟩) hp).trans K.f1;refine⟨K.low,by simpa[World.setCell]using hlt,?_,?_,?_,?_,ha⟩
 · have:=World.cell?_setCells_out p [v'] 1 w' ⟨p,0,none⟩ (fun _ _ => .inl (by simp))
   exact this.trans c0
 · exact World.cell?_setCell_same _ _ _ c1
 · exact(World.frozen?_setCells p [v'] 1 w' ⟨p,1,none⟩).trans f1
 · exact ho.same fun g hg=>Below.heap_setCell _ _ _ _ (fun e=>ha (by rw[show p=g from e.symm];exact hg))
theorem GOwn.cut{T:TypeId}{k B g n cap:Nat}{w:World}{xss:List (List Value)}(h:GOwn T k B w (.slice (some ⟨g,0,none⟩) n cap) xss)(m:Nat)(hn:n=xss.length)(hm:m≤n):GOwn T k B w (.slice (some ⟨g,0,none⟩) m cap) (xss.take m):=by
 subst hn;have hfl:∀(xs:List (List Value)) (m:Nat),(∀y∈xs,y.length=k)→(xs.take m).flatten=xs.flatten.take (m*k):=by
  intro xs
  induction xs with
  |nil=>intro m _;simp
  |cons y r ih=>
   intro m hk;cases m with
   |zero=>simp
   |succ m=>
    rw[List.take_succ_cons,List.flatten_cons,List.flatten_cons,ih m (fun z hz=>hk z (by simp[hz])),List.take_append,hk y (by simp),List.take_of_length_le (l:=y) (by rw[hk y (by simp),Nat.add_mul];omega),show(m+1)*k-k=m*k by rw[Nat.add_mul];omega]
 obtain⟨h0,hl,⟨e,_⟩|⟨g',cap',cur,e,h1,hg,h2,h3,h4,h5⟩⟩:=h
 · cases e
 · simp only[Value.slice.injEq,Option.some.injEq,Addr.mk.injEq,and_true,true_and]at e
   obtain⟨rfl,rfl⟩:=e;(have hlen:(xss.take m).length=m:=by rw[List.length_take];omega);refine⟨fun y hy=>h0 y (List.mem_of_mem_take hy),?_,.inr ⟨g,cap,cur,by rw[hlen],h1,hg,by rw[hlen];omega,h3,h4,?_⟩⟩
   · rw[hfl xss m (fun y hy=>(h0 y hy).1),List.length_take,hl,hlen]
     exact Nat.min_eq_left (Nat.mul_le_mul_right _ hm)
   · rw[hlen,hfl xss m (fun y hy=>(h0 y hy).1),←h5,List.take_take,Nat.min_eq_left (Nat.mul_le_mul_right _ hm)]
theorem zWj{P:Program}{ρ:Operand→Value}{x y:Operand}{t:TypeId}{dst:Option Tmp}{ty:TypeId}{pos:String}{af:Array Edge}{g:Option (Nat×Bool)}{w w':World}{v:Value}(h:(Builtin.append_ #[t,t] ty #[ρ x,ρ y]).run P w = .ok v w'):
 (execOp ρ ⟨dst,.call { callee := .builtin .append,args:=#[x,y],argTypes:=#[t,t] },ty,pos,af,g⟩).run P w = .ok (.value v) w':=by
 unfold execOp;simp only[resolve,invoke,builtin,Sem.run_bind,Sem.run_pure,Result.andThen_ok,List.map_toArray,List.map_cons,List.map_nil,h]
theorem zHp(w:World)(x:Value)(t:TypeId):(Instr.typeAssert (.iface 74 x) t 74 false).run Tryz.prog w = .ok x w:=by kernel_rfl
theorem zBv(w:World)(o:Obj):(w.alloc o).heap[w.heap.size]?=some o:=by show(w.heap.push o)[w.heap.size]?=_;simp
theorem zXq(B:Nat)(w:World)(p:Nat)(room:Int)(v:Value)(h:List Mt)(m:Mt)(K:KAt B w p room v h)(hl:h.length<1099511627776):
 Calls Tryz.prog 223 #[.pointer (some ⟨p,1,none⟩),.iface 74 (valM m)] w fun e w'=>e = .returned (.tuple #[])∧∃v',KAt B w' p room v' (h++[m])∧Upd (KF p v) w w'∧(v'.ownBlock=v.ownBlock∨∃g,v'.ownBlock=some g∧w.heap.size≤g):=by
 obtain⟨ad,cap,rfl⟩:=K.form;obtain⟨V3,hV3⟩:∃V3,w.drew=V3:=⟨_,rfl⟩;have hb3:Below w.heap.size w V3:=by rw[←hV3];exact(Below.refl _ w).drew
 have hz3:V3.heap.size=w.heap.size:=by rw[←hV3];rfl
 obtain⟨V4,hV4⟩:∃V4,V3.alloc (.cells #[.string m.1,.int .i64 m.2.1,.int .i64 m.2.2] 74)=V4:=⟨_,rfl⟩;have hb34:Below V3.heap.size V3 V4:=by rw[←hV4];exact(Below.refl _ V3).alloc (Nat.le_refl _) _
 have hb4:Below w.heap.size w V4:=hb3.trans (hb34.mono hb3.size);have hn4:V4.heap[V3.heap.size]?=some (.cells #[.string m.1,.int .i64 m.2.1,.int .i64 m.2.2] 74):=by rw[←hV4];exact zBv _ _
 have hBV:B≤V4.heap.size:=by have h1:=K.low;have h2:=K.lt;have h3:=hb4.size;omega
 obtain⟨v',W',hap,ho',hgr,hob⟩:=zAw rtyMp (GOwn.below K.row hb4) hBV (cellsM_ok m) (nb:=V3.heap.size) (fun i u hi=>by simp only[World.cell?,hn4];simpa[cellsM]using hi) (by rw[List.length_map];omega) 193 1;obtain⟨vd2,vn2,vc2,hvv2⟩:∃vd vn vc,v' = .slice vd vn vc:=by
  obtain⟨ad,cap,e,_⟩:=GOwn.shape ho';exact⟨_,_,_,e⟩
 subst hvv2;have K4:=K.below hb4;have hu7:Upd (fun k=>(Value.slice ad h.length cap).ownBlock=some k) w W':=(zAk hb4).grown hgr (fun _ _ e=>e);have hap7:(Value.slice vd2 vn2 vc2).ownBlock≠some p:=by
  rcases hob with e|⟨g,e,hg⟩
  · rw[e];exact K.ap
  · rw[e];intro e2;cases e2;have:=K4.lt;omega
 have HK:KAt B (W'.setCell ⟨p,1,none⟩ (.slice vd2 vn2 vc2)) p room (.slice vd2 vn2 vc2) (h++[m]):=K.lay hu7 K.ap (by rw[List.map_append];exact ho') hap7;have HU:Upd (KF p (.slice ad h.length cap)) w (W'.setCell ⟨p,1,none⟩ (.slice vd2 vn2 vc2)):=(hu7.mono (fun k hk => .inr hk)).setCell (a:=⟨p,1,none⟩) (.inl rfl) _;have HO:Hid ((Value.slice vd2 vn2 vc2).ownBlock=(Value.slice ad h.length cap).ownBlock∨∃g,(Value.slice vd2 vn2 vc2).ownBlock=some g∧w.heap.size≤g):=by
  rcases hob with e|⟨g,e,hg⟩
  · exact .inl e
  · exact .inr ⟨g,e,Nat.le_trans hb4.size hg⟩
 have hS3:V3.cell? ⟨p,1,none⟩=some (.slice ad h.length cap):=(K.below hb3).c1;have hS4:V4.cell? ⟨p,1,none⟩=some (.slice ad h.length cap):=K4.c1;have K5:W'.cell? ⟨p,1,none⟩=some (.slice ad h.length cap):=by rw[World.cell?_of_block (w:=w) (hu7.block p K.lt K.ap)];exact K.c1
 have F5:W'.frozen? ⟨p,1,none⟩=false:=by rw[World.frozen?_of_block (w:=w) (hu7.block p K.lt K.ap)];exact K.f1
 obtain⟨W8,hW8⟩:∃W8,W'.setCell ⟨p,1,none⟩ (.slice vd2 vn2 vc2)=W8:=⟨_,rfl⟩;rw[hW8]at HK HU;have HAP:Hid ((Builtin.append_ #[193,193] 193 #[.slice ad h.length cap,.slice (some ⟨V3.heap.size,0,none⟩) 1 1]).run Tryz.prog V4 = .ok (.slice vd2 vn2 vc2) W'):=hap;have HWS:Hid (W'.setCell ⟨p,1,none⟩ (.slice vd2 vn2 vc2)=W8):=hW8;have HV4E:Hid (V3.alloc (.cells #[.string m.1,.int .i64 m.2.1,.int .i64 m.2.2] 74)=V4):=hV4;have HKK:Hid (KAt B W8 p room (.slice vd2 vn2 vc2) (h++[m])):=HK;have HUU:Hid (Upd (KF p (.slice ad h.length cap)) w W8):=HU;have hta:=zHp;generalize h.length=n at *;clear hap ho' hgr hob hb3 hb34 hb4 hn4 hV4 hW8 K K4 hu7 hap7 HK HU hz3 hBV;unfold valM;go_enter Tryz.func223,Tryz.ntmps223;go_wp2_with fail;refine zBd (S:=fun W=>W.cell? ⟨p,1,none⟩=some (.slice ad n cap)) 10 9 rfl zMl ?_;rw[hV3];clear hV3;refine te4 id 0 4 1 5 2 6 3 7 ?_;simp only[sZa,sZb,sZc];refine te2 id 4 8 5 9 ?_;simp only[sZa,sZb,sZc];refine zAe (i:=6) (v := .slice (some ⟨V3.heap.size,0,none⟩) 1 1) (w':=V4) 10 (by kernel_rfl) rfl rfl (by rfl) (by rw[←HV4E.out];go_simp;first|done|exact rfl) hS4 ?_;simp only[sZa,sZb,sZc];refine zAe (i:=7) (v := .slice vd2 vn2 vc2) (w':=W') 11 (by kernel_rfl) rfl rfl (by rfl) (zWj HAP.out) K5 ?_;simp only[sZa,sZb,sZc];refine zAe (i:=8) (v := .pointer (some ⟨p,1,none⟩)) (w':=W') 12 (by kernel_rfl) rfl rfl (by rfl) (by kernel_rfl) K5 ?_;simp only[sZa,sZb,sZc];refine zA6 (w':=W8) (by kernel_rfl) rfl rfl (by rfl) (by rw[←HWS.out];go_simp;first|done|exact rfl) (by kernel_rfl) ?_;go_wp2;go_returns;exact⟨rfl,_,HKK.out,HUU.out,HO.out⟩
attribute [local go_sem ↓] zB8 zBu
theorem Ppop_any(B:Nat)(w:World)(p:Nat)(room:Int)(v:Value)(h:List Mt)(n:Nat)(K:KAt B w p room v h)(hn:h.length=n+1)(hl:h.length<1099511627776):
 Calls Tryz.prog 222 #[.pointer (some ⟨p,1,none⟩)] w fun e w'=>e = .returned (.iface 74 (valM (el h n)))∧∃v',KAt B w' p room v' (h.take n)∧Upd (KF p v) w w'∧v'.ownBlock=v.ownBlock:=by
 obtain⟨g,cap,rfl,hg,_,hcap,hc⟩:=GOwn.mt K.row (by omega);obtain⟨n0,n1,n2,f0,f1,f2⟩:=hc n (by omega);have hgp:g≠p:=fun e=>K.ap (by rw[e];rfl)
 obtain⟨V1,hV1⟩:∃V1,w.alloc (.cells #[.string ⟨#[]⟩,.int .i64 0,.int .i64 0] 74)=V1:=⟨_,rfl⟩;obtain⟨mb,hmb⟩:∃mb,w.heap.size=mb:=⟨_,rfl⟩;have hb1:Below w.heap.size w V1:=by rw[←hV1];exact(Below.refl _ w).alloc (Nat.le_refl _) _
 have hn1:V1.heap[mb]?=some (.cells #[.string ⟨#[]⟩,.int .i64 0,.int .i64 0] 74):=by rw[←hV1,←hmb];exact zBv _ _
 obtain⟨V2,hV2⟩:∃V2,V1.setCells mb 0 (cellsM (el h n))=V2:=⟨_,rfl⟩;have s1:zC9 Tryz.prog (.pointer (some ⟨mb,0,none⟩)) (valM (el h n)) V1 = .ok () V2:=by
  rw[←hV2];exact zC8 (u := .string ⟨#[]⟩) (v := .int .i64 0) (z := .int .i64 0) (by simp[World.cell?,hn1]) (by simp[World.cell?,hn1]) (by simp[World.cell?,hn1]) (by simp[World.frozen?,hn1]) (by simp[World.frozen?,hn1]) (by simp[World.frozen?,hn1])
 have u2:Upd (fun k=>k=mb) w V2:=by rw[←hV2];exact Upd.setCells (F:=fun k=>k=mb) rfl _ _ (zAk hb1)
 have hpm:¬p=mb:=by have:=K.lt;omega
 have K2:KAt B V2 p room (.slice (some ⟨g,0,none⟩) h.length cap) h:=K.upd u2 (fun k hk e=>by
  rcases hk with e2|e2
  · omega
  · simp only[Value.ownBlock,Option.some.injEq]at e2;omega)
 obtain⟨V3,hV3⟩:∃V3,V2.setCells g (n*3) (cellsM (⟨#[]⟩,0,0))=V3:=⟨_,rfl⟩;have s2:zC9 Tryz.prog (.pointer (some ⟨g,n*3,none⟩)) (.agg #[.string ⟨#[]⟩,.int .i64 0,.int .i64 0]) V2 = .ok () V3:=by
  rw[←hV3];have e2:=fun j=>World.cell?_of_block (w:=w) (w':=V2) (a:=⟨g,j,none⟩) (u2.block g hg (by show ¬g=mb;omega))
  have e3:=fun j=>World.frozen?_of_block (w:=w) (w':=V2) (a:=⟨g,j,none⟩) (u2.block g hg (by show ¬g=mb;omega))
  exact zC8 (x:=(⟨#[]⟩,0,0)) ((e2 _).trans n0) ((e2 _).trans n1) ((e2 _).trans n2) ((e3 _).trans f0) ((e3 _).trans f1) ((e3 _).trans f2)
 have u3:Upd (fun k=>k=g) V2 V3:=by rw[←hV3];exact Upd.setCells (F:=fun k=>k=g) rfl _ _ (Upd.refl _ _)
 have G3:GOwn 74 3 B V3 (.slice (some ⟨g,0,none⟩) n cap) ((h.take n).map cellsM):=by
  have G2:=GOwn.put K2.row (by simp) n (by simp;omega) (cellsM (⟨#[]⟩,0,0)) (cellsM_ok _);rw[hV3]at G2;have:=GOwn.cut G2 n (by simp) (by omega);rw[List.take_set_of_le (Nat.le_refl _),←List.map_take]at this;exact this
 have c3:V3.cell? ⟨p,1,none⟩=some (.slice (some ⟨g,0,none⟩) h.length cap):=(World.cell?_of_block (w:=V2) (a:=⟨p,1,none⟩) (u3.block p K2.lt (by show ¬p=g;omega))).trans K2.c1;have f3:V3.frozen? ⟨p,1,none⟩=false:=(World.frozen?_of_block (w:=V2) (a:=⟨p,1,none⟩) (u3.block p K2.lt (by show ¬p=g;omega))).trans K2.f1;have K4:KAt B (V3.setCell ⟨p,1,none⟩ (.slice (some ⟨g,0,none⟩) n cap)) p room (.slice (some ⟨g,0,none⟩) n cap) (h.take n):=K2.lay u3 (by show ¬p=g;omega) G3 (by simp only[Value.ownBlock,ne_eq,Option.some.injEq];exact hgp);have u4:Upd (KF p (.slice (some ⟨g,0,none⟩) h.length cap)) w (V3.setCell ⟨p,1,none⟩ (.slice (some ⟨g,0,none⟩) n cap)):=by
  refine Upd.setCell (F:=KF p (.slice (some ⟨g,0,none⟩) h.length cap)) (a:=⟨p,1,none⟩) ?_ (.inl rfl) _;have u5:Upd (KF p (.slice (some ⟨g,0,none⟩) h.length cap)) w V2:=⟨u2.os,u2.tape,u2.output,u2.size,fun k hk _=>u2.block k hk (by show ¬k=mb;omega)⟩;exact u5.trans u3 (fun k _ e => .inr (by rw[show k=g from e];rfl))
 obtain⟨V4,hV4⟩:∃V4,V3.setCell ⟨p,1,none⟩ (.slice (some ⟨g,0,none⟩) n cap)=V4:=⟨_,rfl⟩;rw[hV4]at K4 u4;have l4:zFo Tryz.prog (.pointer (some ⟨mb,0,none⟩)) V4 = .ok (valM (el h n)) V4:=by
  have hv2:V2.heap.size=V1.heap.size:=by(rw[←hV2];simp[cellsM,World.setCells,World.setCell])
  have hm1:mb<V1.heap.size:=(Array.getElem?_eq_some_iff.1 hn1).1;have hm2:mb<V2.heap.size:=by omega
  have hb4:V4.heap[mb]?=V2.heap[mb]?:=by
   rw[←hV4,Below.heap_setCell _ _ _ _ (by show mb≠p;omega),u3.block mb hm2 (by show ¬mb=g;omega)]
  have e:∀j,V4.cell? ⟨mb,j,none⟩=V2.cell? ⟨mb,j,none⟩:=fun j=>World.cell?_of_block (w:=V2) (a:=⟨mb,j,none⟩) hb4
  have I:=World.cell?_setCells_in mb (cellsM (el h n)) 0 V1 (fun j hj=>by
   (have:j=0∨j=1∨j=2:=by simp[cellsM]at hj;omega);rcases this with rfl|rfl|rfl<;>simp[World.cell?,hn1])
  rw[hV2]at I;exact zDp ((e 0).trans (I 0 (by simp[cellsM]))) ((e 1).trans (I 1 (by simp[cellsM]))) ((e 2).trans (I 2 (by simp[cellsM])))
 have l0:zFo Tryz.prog (.pointer (some ⟨g,n*3,none⟩)) w = .ok (valM (el h n)) w:=zDp n0 n1 n2;have HK:Hid (KAt B V4 p room (.slice (some ⟨g,0,none⟩) n cap) (h.take n)):=K4;have HU:Hid (Upd (KF p (.slice (some ⟨g,0,none⟩) h.length cap)) w V4):=u4;have c0:=K.c1;have c2:=K2.c1;have hw:IntKind.i64.wrap ((h.length:Int)-1)=(n:Int):=by rw[IntKind.wrap_i64];omega
 have hnl:(n:Int)<(h.length:Int):=by omega
 have hnc:(n:Int)≤(cap:Int):=by omega
 have hc0:¬cap=0:=by omega
 generalize el h n=x at *;generalize h.take n=ht at *;generalize h.length=ln at *;clear K K2 K4 u2 u3 u4 G3 hc n0 n1 n2 f0 f1 f2 hb1 hn1 hV2 hV3 hn hcap hgp hpm;go_enter Tryz.func222,Tryz.ntmps222;go_wp2;go_ret;exact⟨rfl,_,HK.out,HU.out,rfl⟩
end Bt
end
section
open Go.RowKit Go.Lib Nums Pm
namespace Bt
def zGd(p:Nat):Value := .iface 199 (.pointer (some ⟨p,1,none⟩))
theorem zKr(W:World)(p:Nat)(ad:Option Addr)(n cap:Nat)(h:W.cell? ⟨p,1,none⟩=some (.slice ad n cap))(s:String)(f:FuncId)(k fuel:Nat)
 (e2:Array.find? (fun x=>x.name==s) (Tryz.prog.types[199]!).methods=some (Tryz.prog.types[199]!.methods[k]!)) (hp:(Tryz.prog.types[199]!.methods[k]!).path=#[]) (hf:(Tryz.prog.types[199]!.methods[k]!).func=some (f,false)):(method (fuel+1) 199 (.pointer (some ⟨p,1,none⟩)) s).run Tryz.prog W = .ok (f,.slice ad n cap) W:=by
 have e1:(typeInfo 199).run Tryz.prog W = .ok (Tryz.prog.types[199]!) W:=by kernel_rfl
 have e3:(underlying 199).run Tryz.prog W = .ok (.pointer 193) W:=by kernel_rfl
 have e4:∀a b:String,(Builtin.ssaWrapNilChk_ #[199] 199 #[.pointer (some ⟨p,1,none⟩),strVal a,strVal b]).run Tryz.prog W = .ok (.pointer (some ⟨p,1,none⟩)) W:=fun _ _=>by kernel_rfl
 unfold method;simp only[Sem.run_bind,e1,Result.andThen_ok,e2,hp,hf,follow,receiverAt,Sem.run_pure,e3,Place.get,asAddr,loadVar];simp[go_sem,h,e4]
theorem zFn (W : World) (p : Nat) (ad : Option Addr) (n cap : Nat) (h : W.cell? ⟨p, 1, none⟩ = some (.slice ad n cap)) : (method 400 199 (.pointer (some ⟨p, 1, none⟩)) "Less").run Tryz.prog W = .ok (220, .slice ad n cap) W :=
 zKr W p ad n cap h "Less" _ 1 _ (by kernel_rfl) (by kernel_rfl) (by kernel_rfl)
theorem zHx (W : World) (p : Nat) (ad : Option Addr) (n cap : Nat) (h : W.cell? ⟨p, 1, none⟩ = some (.slice ad n cap)) : (method 400 199 (.pointer (some ⟨p, 1, none⟩)) "Swap").run Tryz.prog W = .ok (221, .slice ad n cap) W :=
 zKr W p ad n cap h "Swap" _ 4 _ (by kernel_rfl) (by kernel_rfl) (by kernel_rfl)
theorem zQl (W : World) (p : Nat) (ad : Option Addr) (n cap : Nat) (h : W.cell? ⟨p, 1, none⟩ = some (.slice ad n cap)) : (method 400 199 (.pointer (some ⟨p, 1, none⟩)) "Len").run Tryz.prog W = .ok (160, .slice ad n cap) W :=
 zKr W p ad n cap h "Len" _ 0 _ (by kernel_rfl) (by kernel_rfl) (by kernel_rfl)
theorem zU1 (W : World) (p : Nat) : (method 400 199 (.pointer (some ⟨p, 1, none⟩)) "Push").run Tryz.prog W = .ok (223, .pointer (some ⟨p, 1, none⟩)) W := by kernel_rfl
theorem meth_pop (W : World) (p : Nat) : (method 400 199 (.pointer (some ⟨p, 1, none⟩)) "Pop").run Tryz.prog W = .ok (222, .pointer (some ⟨p, 1, none⟩)) W := by kernel_rfl
theorem up_any(B:Nat)(w:World)(p:Nat)(room:Int)(v:Value)(h:List Mt)(j:Nat)(K:KAt B w p room v h)(J:UpJ h.length h j)(hl:h.length<1099511627776):
 Calls Tryz.prog 162 #[zGd p,.int .i64 j] w fun e w'=>e = .returned (.tuple #[])∧∃h',KAt B w' p room v h'∧Upd (KF p v) w w'∧h'.Perm h∧Hp h'.length h':=by
 obtain⟨ad,cap,hv⟩:=K.form;obtain⟨n,hn⟩:∃n,h.length=n:=⟨_,rfl⟩;rw[hn]at hv hl J;subst hv;have HK:Hid (KAt B w p room (.slice ad n cap) h):=K;have HJ:Hid (UpJ n h j):=J;have hj:=J.lt;have HN:Hid (h.length=n):=hn;clear K J hn;unfold zGd;go_enter Tryz.func162,Tryz.ntmps162;go_wp2
 go_loopg [1] j (fun g s1 wr=>∃(k:Nat) (h':List Mt),s1 = .int .i64 k∧k≤g∧k<n∧Hid (KAt B wr p room (.slice ad n cap) h'∧UpJ n h' k∧h'.Perm h∧Upd (KF p (.slice ad n cap)) w wr))
 case atStart=>exact⟨j,h,rfl,Nat.le_refl _,by omega,HK.out,HJ.out,.refl _,Upd.refl _ _⟩
 case round=>
  obtain⟨k,h',rfl,hkg,hkn,HR⟩:=hrel;have HL':Hid (h'.length=n):=by have:=HR.out.2.2.1.length_eq;have:=HN.out;show h'.length=n;omega
  by_cases h0:k=0
  · subst h0
    go_wp2;go_returns;exact⟨rfl,h',HR.out.1,HR.out.2.2.2,HR.out.2.2.1,by rw[HL'.out];exact HR.out.2.1.stop (.inl rfl)⟩
  · have hpk:pa k<k:=by unfold pa;omega
    have hdiv:((k:Int)-1).tdiv 2=(pa k:Int):=by
     (have:(k:Int)-1=((k-1:Nat):Int):=by omega);rw[this];unfold pa;exact(Int.ofNat_tdiv _ _).symm
    (have hne:((pa k:Int)==(k:Int))=false:=by simp;omega);have hm:=zFn wr p ad n cap HR.out.1.c1;have HLS:Hid (Calls Tryz.prog 220 #[.slice ad n cap,.int .i64 (k:Int),.int .i64 (pa k:Int)] wr fun e w'=>e = .returned (.bool (btr (el h' (pa k)) (el h' k)))∧Below wr.heap.size wr w'):=zLl B wr _ h' HR.out.1.row k (pa k) (by have:=HL'.out;omega) (by have:=HL'.out;omega) (by have:=HL'.out;omega);obtain⟨i,hi⟩:∃i,pa k=i:=⟨_,rfl⟩;rw[hi]at hdiv hne HLS hpk;obtain⟨b,hb⟩:∃b,btr (el h' i) (el h' k)=b:=⟨_,rfl⟩;have HI:Hid (pa k=i):=hi;have HB:Hid (btr (el h' i) (el h' k)=b):=hb;rw[hb]at HLS;clear hi hb h0;cases b
    · go_wp2_with (go_at_call 220;refine HLS.out.mono ?_;rintro e w1 ⟨rfl,hb1⟩;have HB1:Hid (Below wr.heap.size wr w1):=hb1;clear hb1)
      go_returns;exact⟨rfl,h',HR.out.1.below HB1.out,HR.out.2.2.2.trans (G:=fun _=>False) (zAk HB1.out) (fun _ _ f=>f.elim),HR.out.2.2.1,by rw[HL'.out];exact HR.out.2.1.stop (.inr (by rw[HI.out];exact HB.out))⟩
    · go_wp2_with (go_at_call 220;refine HLS.out.mono ?_;rintro e w1 ⟨rfl,hb1⟩;have HB1:Hid (Below wr.heap.size wr w1):=hb1;clear hb1;clear hm;have hm:=zHx w1 p ad n cap (HR.out.1.below HB1.out).c1)
      have HSW:Hid (Calls Tryz.prog 221 #[.slice ad n cap,.int .i64 (i:Int),.int .i64 (k:Int)] w1 fun e w'=>e = .returned (.tuple #[])∧GOwn 74 3 B w' (.slice ad n cap) ((swp h' i k).map cellsM)∧Upd (fun j=>(Value.slice ad n cap).ownBlock=some j) w1 w'):=zLh B w1 _ h' (HR.out.1.below HB1.out).row i k (by have:=HL'.out;omega) (by have:=HL'.out;omega) (by have:=HL'.out;omega);refine HSW.out.mono ?_;rintro e w2 ⟨rfl,hg2,hu2⟩;have K1:=HR.out.1.below HB1.out;have HR2:Hid (KAt B w2 p room (.slice ad n cap) (swp h' i k)∧UpJ n (swp h' i k) i∧(swp h' i k).Perm h∧Upd (KF p (.slice ad n cap)) w w2):=by
       have J2:=HR.out.2.1.step (by omega) (by rw[HI.out];exact HB.out);rw[HI.out]at J2;have hp:=hu2.block p K1.lt K1.ap;refine⟨⟨K1.low,Nat.lt_of_lt_of_le K1.lt hu2.size,(World.cell?_of_block (w:=w1) (a:=⟨p,0,none⟩) hp).trans K1.c0,(World.cell?_of_block (w:=w1) (a:=⟨p,1,none⟩) hp).trans K1.c1,(World.frozen?_of_block (w:=w1) (a:=⟨p,1,none⟩) hp).trans K1.f1,hg2,K1.ap⟩,J2,(zJ5 h' i k (by have:=HL'.out;omega) (by have:=HL'.out;omega)).trans HR.out.2.2.1,?_⟩;exact(HR.out.2.2.2.trans (G:=fun _=>False) (zAk HB1.out) (fun _ _ f=>f.elim)).trans hu2 (fun _ _ e => .inr e)
      clear hg2 hu2 K1 HR hm HLS HSW;go_wp2;go_roundg i;(case measure=>omega);case rel=>exact⟨i,swp h' i k,rfl,Nat.le_refl _,by omega,HR2⟩
end Bt
end
