import Derived.Test.YtobjpljdgieklaaGreatDoorJ7
import Derived.Test.YtobjpljdgieklaaGreatDoorFBuild2
import Derived.Test.YtobjpljdgieklaaGreatDoorJ15
import Derived.Test.YtobjpljdgieklaaGreatDoorJ12
import Derived.Test.YtobjpljdgieklaaGreatDoorJ11
import Derived.RangeFuncNested
import Derived.RangeFuncCalls
import Derived.OrdersIn
import Derived.Test.YtobjpljdgieklaaGreatDoorJ2
set_option maxRecDepth 100000
namespace Go.Proofs.YtobjpljdgieklaaGreatDoor
section
open Go.RowKit
variable {P:Program} {md:Region.Mode} {ops:Array Oper} {Q:Exit→Act→World→Prop} {S:World→Prop}
theorem pass_at{i:Nat}{oi:Oper}{fuel:Nat}{listed:Array Bool}{tmps:Array Value}{df:List Deferred}{w:World}(t:Tmp)(hi:ops[i]?=some oi)(hd:oi.dst=some t)
 (hs:Region.noSelect ops=true) (hf:Region.free md ops listed i=true) (hr:(Region.ready md ops listed).contains i=true)
 (hQ:∀c a w,Q (.panic c) (a.put oi.dst undef) w→Q (.panic c) a w) (hw:Region.wanted oi (yielded ops tmps)=false) (hS:S w)
 (h:wpAnyH P md ops Q S fuel (listed.setIfInBounds i true) { tmps:=tmps.setIfInBounds t undef,defers:=df } w):wpAnyH P md ops Q S (fuel+1) listed { tmps:=tmps,defers:=df } w:=by
 refine wpAnyH_take hi hs hf hr hQ (.inr ⟨hw,rfl⟩) hS ?_;rw[hd];exact h
theorem pk{i:Nat}{oi:Oper}{fuel:Nat}{listed:Array Bool}{tmps:Array Value}{df:List Deferred}{w:World}(t:Tmp)(hi:ops[i]?=some oi)(hd:oi.dst=some t)
 (hk:(Region.noSelect ops&&Region.free md ops listed i&&(Region.ready md ops listed).contains i)=true)
 (hQ:∀c a w,Q (.panic c) (a.put oi.dst undef) w→Q (.panic c) a w) (hw:Region.wanted oi (yielded ops tmps)=false) (hS:S w)
 (h:wpAnyH P md ops Q S fuel (listed.setIfInBounds i true) { tmps:=tmps.setIfInBounds t undef,defers:=df } w):wpAnyH P md ops Q S (fuel+1) listed { tmps:=tmps,defers:=df } w:=by
 simp only[Bool.and_eq_true]at hk;exact pass_at t hi hd hk.1.1 hk.1.2 hk.2 hQ hw hS h
end
section
open Go.RowKit Nums Fm
end
section
open Go.RowKit Nums Pm
def zE5(x:Pr):Bool:=zAp x.1.data.toList&&(decide (1≤x.2)&&decide (x.2≤1048576))
def zAt(p:Option Pr):List Pr→Bool
 |[]=>true
 |x::r=>zE5 x&&(zFl p x&&zAt (some x) r)
def zDx(l:List Pr):Bool:=decide (l.length≤4096)&&zAt none l
theorem zSc{l:List Pr}(h:¬l.length≤4096):zDx l=false:=by simp[zDx,h]
theorem zOk{l:List Pr}(h:l.length≤4096):zDx l=zAt (zA4 l 0) (l.drop 0):=by simp[zDx,h,zA4]
theorem zC9{l:List Pr}{k:Nat}{x:Pr}(hx:l[k]?=some x)(h:zE5 x=false):zAt (zA4 l k) (l.drop k)=false:=by rw[drop_at l k x hx,zAt,h];rfl
theorem zUq{l:List Pr}{k:Nat}{x y:Pr}(hx:l[k+1]?=some x)(hy:l[k]?=some y)(h:zAa y.1 x.1=false):zAt (zA4 l (k+1)) (l.drop (k+1))=false:=by
 rw[drop_at l (k+1) x hx,zAt,zA4,hy,zFl,h];simp
theorem zOj{l:List Pr}{x:Pr}(hx:l[0]?=some x)(h:zE5 x=true):zAt (zA4 l 0) (l.drop 0)=zAt (zA4 l 1) (l.drop 1):=by
 rw[drop_at l 0 x hx,zAt,h,zA4,zA4,zFl,hx];rfl
theorem zSb{l:List Pr}{k:Nat}{x y:Pr}(hx:l[k+1]?=some x)(hy:l[k]?=some y)(h:zE5 x=true)(h2:zAa y.1 x.1=true):zAt (zA4 l (k+1)) (l.drop (k+1))=zAt (zA4 l (k+1+1)) (l.drop (k+1+1)):=by
 rw[drop_at l (k+1) x hx,zAt,h,zA4,zA4,hy,zFl,hx,h2];rfl
theorem zUr{l:List Pr}{k:Nat}(h:l.length≤k):zAt (zA4 l k) (l.drop k)=true:=by rw[List.drop_eq_nil_of_le h];rfl
theorem zMl{x:Pr}(h:zAp x.1.data.toList=false):zE5 x=false:=by simp[zE5,h]
theorem zQp{x:Pr}(h:x.2<1):zE5 x=false:=by simp[zE5];intro _ h2;omega
theorem zMm{x:Pr}(h:1048576<x.2):zE5 x=false:=by simp[zE5];omega
theorem zU7{x:Pr}(h:zAp x.1.data.toList=true)(h1:¬x.2<1)(h2:¬1048576<x.2):zE5 x=true:=by simp[zE5,h];omega
end
section
open Go.RowKit
def zOs(l:List Oper):Bool:=l.all fun o=>match o.op with | .defer _=>false|_=>true
section
variable {F:Fence} {n:Nat} {P:Program} {md:Region.Mode} {ops:Array Oper} {Q:Exit→Act→World→Prop}
theorem zOi{row:String}{args:Array Value}{w:World}{R:Value→World→Prop}(h:Rows P row args w R):RowsIn Fence.wide n P row args w R:=
 fun c cs _=>let⟨v,w',r,s⟩:=h c cs;⟨v,w',r,stepsIn_wide.2 s⟩
theorem zTt{o:Oper}{a:Act}{w:World}{K:Act→World→Prop}(h:o.wp P a w K Q):o.wpIn Fence.wide n P a w K Q:=by
 unfold Oper.wp at h;unfold Oper.wpIn;refine⟨fun _ _=>trivial,?_⟩;show o.uponIn Fence.wide n P a K Q ((o.semAt none a.eval).run P w);rw[Oper.semAt_none];generalize (execOp a.eval o).run P w=r at *;cases r with
 |ok x w'=>
  cases x with
  |enter f args=>exact⟨fun h=>by simp[Fence.wide]at h,callsIn_wide.2 h⟩
  |row r args=>exact⟨fun h=>by simp[Fence.wide]at h,zOi h⟩
  |_=>first|exact h|exact h.elim
 |halt x w'=>cases x<;>first|exact h|exact h.elim
theorem zN5{i:Nat}{a:Act}{w:World}{K:Act→World→Prop}(hlo:¬LetsOut Q)(h:wpOp P ops Q i K a w):wpOpIn Fence.wide n P ops Q i K a w:=by
 unfold wpOp at h;unfold wpOpIn;cases ho:ops[i]? with
 |none=>simp only[ho]at h ⊢;exact h
 |some o=>
  simp only[ho]at h ⊢;by_cases hw:Region.wanted o (yielded ops a.tmps)=true
  · rw[if_pos hw]at h ⊢
    rcases h with h|h
    · exact zTt h
    · exact absurd h.2 hlo
  · rw[if_neg hw]at h ⊢
    exact⟨fun _ _=>trivial,h⟩
theorem zD1(hlo:¬LetsOut Q):∀(fuel:Nat) (listed:Array Bool) (a:Act) (w:World),wpAny P md ops Q fuel listed a w→wpAnyIn Fence.wide n P md ops Q fuel listed a w
 |0,_,_,_,h=>h
 |fuel+1,_,_,_,h=>⟨h.1,fun i hi=>wpOpIn_mono (fun a' w' h'=>zD1 hlo fuel _ a' w' h') (zN5 hlo (h.2 i hi))⟩
theorem zL0{o:Oper}{a:Act}{w:World}{K:Act→World→Prop}(lp:Nat)(hro:F.round=none)(hd:∀c,o.op ≠ .defer c)(h:o.wpIn F n P a w K Q):o.wpIn (F.inRound lp) n P a w K Q:=by
 unfold Oper.wpIn at *;refine⟨h.1,?_⟩;have h2:=h.2;rw[hro,Oper.semAt_none]at h2;rw[Oper.semAt_eq _ _ _ hd];generalize (execOp a.eval o).run P w=r at *;cases r with
 |ok x w'=>cases x<;>exact h2
 |halt x w'=>cases x<;>exact h2
theorem zCg(lp:Nat)(hro:F.round=none)(hd:zOs ops.toList=true):∀(fuel:Nat) (listed:Array Bool) (a:Act) (w:World),wpAnyIn F n P md ops Q fuel listed a w→wpAnyIn (F.inRound lp) n P md ops Q fuel listed a w
 |0,_,_,_,h=>h
 |fuel+1,listed,a,w,h=>⟨h.1,fun i hi=>by
  refine wpOpIn_mono (fun a' w' h'=>zCg lp hro hd fuel _ a' w' h') ?_;have h2:=h.2 i hi;unfold wpOpIn at *;cases ho:ops[i]? with
  |none=>simp only[ho]at h2 ⊢;exact h2
  |some o=>
   simp only[ho]at h2 ⊢
   split
   · rename_i hw
     rw[if_pos hw]at h2;refine zL0 lp hro (fun c hc=>?_) h2;have:=List.all_eq_true.1 hd o (by rw[←Array.mem_def];exact Array.mem_of_getElem? ho);rw[hc]at this;cases this
   · rename_i hw
     rw[if_neg hw]at h2;exact h2⟩
theorem zQe{S:World→Prop}{id lp:Nat}{a:Act}{w:World}(k:Nat)(hk:ops.size=k)(hm:P.follows .mixedOrders=true)(hd:zOs ops.toList=true)(hlo:¬LetsOut Q)(hS:S w.drew)(h:S w.drew→wpAnyH P .any ops Q S k (Array.replicate k false) a w.drew):(Code.region id ops true).wpIn (Fence.wide.inRound lp) n P Q a w:=by
 subst hk;exact wpIn_region_any hm (zCg lp rfl hd _ _ _ _ (zD1 hlo _ _ _ _ (wpAny_of_held _ _ _ _ (h hS))))
theorem zUn{S:World→Prop}{id lp:Nat}{a:Act}{w:World}(k z:Nat)(hk:ops.size=k)(hm:P.follows .mixedOrders=true)(hd:zOs ops.toList=true)(hlo:¬LetsOut Q)(h:zBc P .any ops Q S z k (Array.replicate k false) a w.drew):(Code.region id ops true).wpIn (Fence.wide.inRound lp) n P Q a w:=by
 subst hk;exact wpIn_region_any hm (zCg lp rfl hd _ _ _ _ (zD1 hlo _ _ _ _ (zGd _ _ _ _ h)))
end
theorem Upd.putR{W:World}(l:Nat)(o:Obj):Upd (fun k=>k=l) W (W.putObj l o):=
 ⟨rfl,rfl,rfl,by simp,fun k _ hk=>World.putObj_heap_other hk⟩
def roundB(I:Nat→World→Prop)(d k:Nat)(W:World):Exit→Act→World→Prop
 |.normal,_,W'=>(∃G:Nat→Prop,Upd G W W'∧¬G d∧¬G (d+1))∧I (k+1) W'
 |_,_,_=>False
def SeqB(gf:Nat)(lb:Array Value)(enc:Nat→Array Value)(N:Nat)(T:World→Prop):Prop:=
 ∀(yl:Nat) (J:Nat→World→Prop) (W:World),(∀k W,J k W→T W)→(∀k W,k<N→J k W→YieldAt Fence.wide 0 Tryz.prog yl (enc k) W fun e W'=>e = .returned (.bool true)∧J (k+1) W')→J 0 W →
  Calls Tryz.prog gf (#[.func (.yield yl) #[] #[]]++lb) W fun e W'=>(∃v,e = .returned v)∧J N W'
set_option maxHeartbeats 1000000 in
theorem zTv{g:Operand}{ps:Array Tmp}{assign body:Code}{Q:Exit→Act→World→Prop}{a:Act}{w:World}{gf:Nat}{lb:Array Value}{enc:Nat→Array Value}{N:Nat}{T:World→Prop}
 (hg:a.eval g = .func (.func gf) #[] lb) (eg:∀args w,(callFunc gf args).run Tryz.prog w = .ok (.enter gf args) w) (hseq:SeqB gf lb enc N T) (hps:∀k,ps.size=(enc k).size)
 (I:Nat→World→Prop) (hT:∀k W,I k W→T W) (hI:∀k W W',I k W→Upd (fun j=>j=w.heap.size∨j=w.heap.size+1) W W'→I k W') (h0:I 0 w)
 (hround:∀l k W,k<N→I k W→w.heap.size+1<W.heap.size→assign.wpIn (Fence.wide.inRound l) 0 Tryz.prog (Exit.then (fun a1 W1=>Upd (fun _=>False) W W1∧∀W2,Upd (fun j=>j=w.heap.size+1) W1 W2→body.wpIn (Fence.wide.inRound l) 0 Tryz.prog (roundB I w.heap.size k W2) a1 W2) (fun _ _ _=>False)) { tmps:=(ps.zip (enc k)).foldl (fun t (p,v)=>t.setIfInBounds p v) a.tmps,defers:=[] } W)
 (hdone:∀W,I N W→W.heap[w.heap.size]?=some (.deferred (some []))→Q .normal { a with defers:={ target := .collected w.heap.size,args:=#[] }::a.defers } W):
 (Code.rangeFunc g ps assign body).wp Tryz.prog Q a w:=by
 refine(wpIn_wide (n:=0)).1 (wpIn_rangeFunc ?_);intro fn hfn;rw[Fence.wide_round];obtain⟨rec,hrec⟩:∃rec:LoopState→Option Code→Loop,rec=fun st pe=>{ state:=st,pending:=pe,fn,tmps:=a.tmps,params:=ps,assign,body,defers:=w.heap.size }:=⟨_,rfl⟩
 obtain⟨W1,hW1⟩:∃W1,(w.alloc (.deferred (some []))).alloc (.loop (rec .ready none))=W1:=⟨_,rfl⟩;have hL1:W1.heap[w.heap.size+1]?=some (.loop (rec .ready none)):=by
  rw[←hW1];have:=World.alloc_heap_new (w.alloc (.deferred (some []))) (.loop (rec .ready none));rwa [World.size_alloc]at this
 have hK1:W1.heap[w.heap.size]?=some (.deferred (some [])):=by
  rw[←hW1];exact(Below.heap_alloc _ _ _ (by simp)).trans (World.alloc_heap_new w _)
 have hb1:Below w.heap.size w W1:=by rw[←hW1];exact((Below.refl _ w).alloc (Nat.le_refl _) _).alloc (by simp) _
 let J:Nat→World→Prop:=fun k W=>W.heap[w.heap.size+1]?=some (.loop (rec .ready none))∧W.heap[w.heap.size]?=some (.deferred (some []))∧I k W
 refine⟨w.heap.size+1,[{ target := .collected w.heap.size,args:=#[] }],W1,{ target := .fn (.func gf) lb,args:=#[.func (.yield (w.heap.size+1)) #[] #[]] },W1,gf,
  #[.func (.yield (w.heap.size+1)) #[] #[]]++lb,W1,?_,?_,fun _ _=>trivial,?_,fun h=>by simp[Fence.wide]at h,?_⟩
 · rw[←hW1,hrec];exact run_enterLoop_outer _ _ _ _ _
 · simp only[resolve,hg]
   simp[go_sem]
 · simp[invoke,go_sem,eg]
 · refine callsIn_wide.2 ((hseq (w.heap.size+1) J W1 (fun k W h=>hT k W h.2.2) ?_ ⟨hL1,hK1,hI _ _ _ h0 (Upd.of_below hb1)⟩).mono ?_)
   · rintro k W hk ⟨hr,hd,hi⟩
     have hlt:w.heap.size+1<W.heap.size:=(Array.getElem?_eq_some_iff.1 hr).1;have hy:=run_yield (P:=Tryz.prog) (args:=enc k) hr (by rw[hrec];exact(hps k).symm);rw[hrec]at hy;refine⟨fn,_,assign,body,hy,roundIn_of_wpIn hfn (wpIn_mono (hround (w.heap.size+1) k W hk hi hlt) ?_)⟩;clear hy;intro e0 a0 Wa hp0;cases e0 with
     |exit _=>exact hp0.elim
     |goto _=>exact hp0.elim
     |ret=>exact hp0.elim
     |panic _=>exact hp0.elim
     |outgrown=>exact hp0.elim
     |normal=>
     obtain⟨hu0,hbody⟩:=hp0;have hra:Wa.heap[w.heap.size+1]?=some (.loop (rec .ready none)):=(hu0.block _ hlt id).trans hr;have hda:Wa.heap[w.heap.size]?=some (.deferred (some [])):=(hu0.block _ (by omega) id).trans hd;have hlta:w.heap.size+1<Wa.heap.size:=(Array.getElem?_eq_some_iff.1 hra).1;refine⟨_,run_beginRound hra (by rw[hrec]),?_⟩;have hl2:(Wa.putObj (w.heap.size+1) (.loop { rec .ready none with state := .busy })).heap[w.heap.size+1]?=some (.loop { rec .ready none with state := .busy }):=World.putObj_heap_same hlta;have hk2:(Wa.putObj (w.heap.size+1) (.loop { rec .ready none with state := .busy })).heap[w.heap.size]?=some (.deferred (some [])):=(World.putObj_heap_other (by omega)).trans hda;have hbody2:=hbody _ (Upd.putR (W:=Wa) (w.heap.size+1) (.loop { rec .ready none with state := .busy }));clear hbody;generalize (Wa.putObj (w.heap.size+1) (.loop { rec .ready none with state := .busy }))=Wb at hl2 hk2 hbody2;have hszb:w.heap.size+1<Wb.heap.size:=(Array.getElem?_eq_some_iff.1 hl2).1;refine wpIn_mono hbody2 ?_;rintro e a3 W3 hp;cases e with
     |normal=>
      obtain⟨⟨G,hu3,n2,n1⟩,hi3⟩:=hp;have hl3:=(hu3.block _ hszb n1).trans hl2;have hd3:=(hu3.block _ (by omega) n2).trans hk2;have he:=run_endRound (P:=Tryz.prog) none hl3;rw[hrec]at he;refine⟨_,_,he,rfl,?_,(World.putObj_heap_other (by omega)).trans hd3,hI _ _ _ hi3 ((Upd.putR _ _).mono fun k e => .inr e)⟩;rw[hrec];exact World.putObj_heap_same (Array.getElem?_eq_some_iff.1 hl3).1
     |ret=>exact hp.elim
     |exit id=>exact hp.elim
     |goto t=>exact hp.elim
     |panic ch=>exact hp.elim
     |outgrown=>exact hp.elim
   · rintro e W2 ⟨⟨v,rfl⟩,hr,hd,hi⟩
     refine⟨none,_,by have:=run_endLoop (P:=Tryz.prog) hr (by rw[hrec];simp);rw[hrec]at this;exact this,?_⟩;exact hdone _ (hI _ _ _ hi ((Upd.putR _ _).mono fun k e => .inr e)) ((World.putObj_heap_other (by omega)).trans hd)
end
namespace Ed
def lv:List Int→List Int→Nat
 |[],ys=>ys.length
 |_::xs,[]=>xs.length+1
 |x::xs,y::ys=>min (lv xs ys+if x=y then 0 else 1) (min (lv xs (y::ys)+1) (lv (x::xs) ys+1))
termination_by xs ys=>xs.length+ys.length
inductive Al:List Int→List Int→Nat→Prop
 |nil:Al [] [] 0
 |same {x:Int} {xs ys:List Int} {n:Nat}:Al xs ys n→Al (x::xs) (x::ys) n
 |sub {x y:Int} {xs ys:List Int} {n:Nat}:x≠y→Al xs ys n→Al (x::xs) (y::ys) (n+1)
 |del {x:Int} {xs ys:List Int} {n:Nat}:Al xs ys n→Al (x::xs) ys (n+1)
 |ins {y:Int} {xs ys:List Int} {n:Nat}:Al xs ys n→Al xs (y::ys) (n+1)
theorem zCm(ys:List Int):lv [] ys=ys.length:=by rw[lv]
theorem zCu(xs:List Int):lv xs []=xs.length:=by cases xs<;>rw[lv]<;>rfl
theorem zEc(x y:Int)(xs ys:List Int):lv (x::xs) (y::ys)=min (lv xs ys+if x=y then 0 else 1) (min (lv xs (y::ys)+1) (lv (x::xs) ys+1)):=by rw[lv]
theorem lv_del(x:Int)(xs ys:List Int):lv (x::xs) ys≤lv xs ys+1:=by
 cases ys with
 |nil=>rw[zCu,zCu];simp
 |cons y ys=>rw[zEc];omega
theorem lv_ins(y:Int)(xs ys:List Int):lv xs (y::ys)≤lv xs ys+1:=by
 cases xs with
 |nil=>rw[zCm,zCm];simp
 |cons x xs=>rw[zEc];omega
theorem lv_al{xs ys:List Int}{n:Nat}(h:Al xs ys n):lv xs ys≤n:=by
 induction h with
 |nil=>rw[zCm];simp
 |same _ ih=>rw[zEc,if_pos rfl];omega
 |sub hne _ ih=>rw[zEc,if_neg hne];omega
 |del _ ih=>exact Nat.le_trans (lv_del _ _ _) (by omega)
 |ins _ ih=>exact Nat.le_trans (lv_ins _ _ _) (by omega)
theorem zX6:∀ys:List Int,Al [] ys ys.length
 |[] => .nil
 |_::ys => .ins (zX6 ys)
theorem zRq:∀xs:List Int,Al xs [] xs.length
 |[] => .nil
 |_::xs => .del (zRq xs)
theorem al_lv:∀(n:Nat) (xs ys:List Int),xs.length+ys.length≤n→Al xs ys (lv xs ys):=by
 intro n
 induction n with
 |zero=>
  intro xs ys h;have e1:xs=[]:=List.length_eq_zero_iff.1 (by omega);have e2:ys=[]:=List.length_eq_zero_iff.1 (by omega);subst e1;subst e2;rw[zCm];exact .nil
 |succ n ih=>
  intro xs ys h
  match xs,ys with
  |[],ys=>rw[zCm];exact zX6 ys
  |x::xs,[]=>rw[zCu];exact zRq _
  |x::xs,y::ys=>
   simp only[List.length_cons]at h;have a1:=ih xs ys (by omega);have a2:=ih xs (y::ys) (by simp only[List.length_cons];omega);have a3:=ih (x::xs) ys (by simp only[List.length_cons];omega);have e:=zEc x y xs ys;by_cases hxy:x=y
   · subst hxy
     rw[if_pos rfl]at e;by_cases c1:lv (x::xs) (x::ys)=lv xs ys
     · rw[c1];exact .same a1
     · by_cases c2:lv (x::xs) (x::ys)=lv xs (x::ys)+1
       · rw[c2];exact .del a2
       · have c3:lv (x::xs) (x::ys)=lv (x::xs) ys+1:=by omega
         rw[c3];exact .ins a3
   · rw[if_neg hxy]at e
     by_cases c1:lv (x::xs) (y::ys)=lv xs ys+1
     · rw[c1];exact .sub hxy a1
     · by_cases c2:lv (x::xs) (y::ys)=lv xs (y::ys)+1
       · rw[c2];exact .del a2
       · have c3:lv (x::xs) (y::ys)=lv (x::xs) ys+1:=by omega
         rw[c3];exact .ins a3
theorem al_is(xs ys:List Int):Al xs ys (lv xs ys):=al_lv _ xs ys (Nat.le_refl _)
theorem Al.append{a b c d:List Int}{n m:Nat}(h:Al a b n)(k:Al c d m):Al (a++c) (b++d) (n+m):=by
 induction h with
 |nil=>simpa using k
 |same _ ih=>exact .same ih
 |sub hne _ ih=>rw[show ∀n:Nat,n+1+m=n+m+1 by omega];exact .sub hne ih
 |del _ ih=>rw[show ∀n:Nat,n+1+m=n+m+1 by omega];exact .del ih
 |ins _ ih=>rw[show ∀n:Nat,n+1+m=n+m+1 by omega];exact .ins ih
theorem Al.rev{a b:List Int}{n:Nat}(h:Al a b n):Al a.reverse b.reverse n:=by
 induction h with
 |nil=>exact .nil
 |same _ ih=>rw[List.reverse_cons,List.reverse_cons];exact ih.append (.same .nil)
 |sub hne _ ih=>rw[List.reverse_cons,List.reverse_cons];exact ih.append (.sub hne .nil)
 |del _ ih=>rw[List.reverse_cons];simpa using ih.append (.del (x:=_) .nil)
 |@ins y xs ys n _ ih=>rw[List.reverse_cons];simpa using ih.append (.ins (y:=y) .nil)
theorem zQv(a b:List Int):lv a.reverse b.reverse=lv a b:=by
 have h1:=lv_al (al_is a b).rev;have h2:=lv_al (al_is a.reverse b.reverse).rev;rw[List.reverse_reverse,List.reverse_reverse]at h2;omega
theorem zVr(p q:List Int)(x y:Int):lv (p++[x]) (q++[y])=min (lv p q+if x=y then 0 else 1) (min (lv p (q++[y])+1) (lv (p++[x]) q+1)):=by
 have e:=zEc x y p.reverse q.reverse;have r:∀(a:List Int) (z:Int),z::a.reverse=(a++[z]).reverse:=fun a z=>by simp
 rw[r,r,zQv,zQv,zQv,zQv]at e;exact e
theorem lv_bd:∀(n:Nat) (xs ys:List Int),xs.length+ys.length≤n→xs.length≤ys.length+lv xs ys∧ys.length≤xs.length+lv xs ys∧(lv xs ys≤xs.length∨lv xs ys≤ys.length):=by
 intro n
 induction n with
 |zero=>
  intro xs ys h;have e1:xs=[]:=List.length_eq_zero_iff.1 (by omega);subst e1;rw[zCm];simp
 |succ n ih=>
  intro xs ys h
  match xs,ys with
  |[],ys=>rw[zCm];simp
  |x::xs,[]=>rw[zCu];simp
  |x::xs,y::ys=>
   simp only[List.length_cons]at h ⊢;have a1:=ih xs ys (by omega);have a2:=ih xs (y::ys) (by simp only[List.length_cons];omega);have a3:=ih (x::xs) ys (by simp only[List.length_cons];omega);simp only[List.length_cons]at a2 a3;rw[zEc]
   split<;>omega
theorem lv_bds(xs ys:List Int):xs.length≤ys.length+lv xs ys∧ys.length≤xs.length+lv xs ys∧(lv xs ys≤xs.length∨lv xs ys≤ys.length):=lv_bd _ xs ys (Nat.le_refl _)
def dr(p ys:List Int):List Int:=(List.range (ys.length+1)).map fun j=>(lv p (ys.take j):Int)
theorem zIi(p ys:List Int):(dr p ys).length=ys.length+1:=by simp[dr]
theorem zNe(p ys:List Int){j:Nat}(h:j≤ys.length):(dr p ys)[j]?=some (lv p (ys.take j):Int):=by
 unfold dr;rw[List.getElem?_map,List.getElem?_range (by omega)];rfl
theorem dr_start(ys:List Int){j:Nat}(h:j≤ys.length):(dr [] ys)[j]?=some (j:Int):=by
 rw[zNe _ _ h,zCm,List.length_take,Nat.min_eq_left h]
theorem dr_next(p ys:List Int)(r:Int){j:Nat}{s:Int}(h:ys[j]?=some s):
 lv (p++[r]) (ys.take (j+1))=min (lv p (ys.take j)+if s=r then 0 else 1) (min (lv p (ys.take (j+1))+1) (lv (p++[r]) (ys.take j)+1)):=by
 have e:ys.take (j+1)=ys.take j++[s]:=by rw[List.take_add_one,h];rfl
 rw[e,zVr];have:(if r=s then 0 else 1)=(if s=r then 0 else 1:Nat):=by
  by_cases c:r=s
  · rw[if_pos c,if_pos c.symm]
  · rw[if_neg c,if_neg (fun e=>c e.symm)]
 rw[this]
theorem dr_bd(p ys:List Int)(j:Nat):lv p (ys.take j)≤p.length+ys.length:=by
 have:=lv_bds p (ys.take j);have h2:(ys.take j).length≤ys.length:=by rw[List.length_take];omega
 omega
def lay(cs:List Int)(b:Nat)(L:List Int):List Int:=cs.take b++L++cs.drop (b+L.length)
theorem zV2(cs:List Int)(b:Nat):lay cs b []=cs:=by simp[lay]
theorem zLc{cs L:List Int}{b:Nat}(h:b+L.length≤cs.length):(lay cs b L).length=cs.length:=by
 simp[lay];omega
theorem zV3{cs L:List Int}{b i:Nat}(h:b+L.length≤cs.length)(hi:i<L.length):(lay cs b L)[b+i]?=L[i]?:=by
 unfold lay;rw[List.append_assoc,List.getElem?_append_right (by rw[List.length_take];omega),List.length_take,Nat.min_eq_left (by omega),show b+i-b=i by omega,List.getElem?_append_left hi]
theorem zV1{cs L:List Int}{b k:Nat}(h:b+L.length≤cs.length)(hk:k<b∨b+L.length≤k):(lay cs b L)[k]?=cs[k]?:=by
 unfold lay;rcases hk with hk|hk
 · rw[List.append_assoc,List.getElem?_append_left (by rw[List.length_take];omega),List.getElem?_take,if_pos hk]
 · rw[List.getElem?_append_right (by simp;omega),List.getElem?_drop]
   congr 1;simp;omega
theorem zOv{cs L:List Int}{b:Nat}(h:b+L.length<cs.length)(x:Int):(lay cs b L).set (b+L.length) x=lay cs b (L++[x]):=by
 have hl:(cs.take b++L).length=b+L.length:=by simp;omega
 unfold lay;rw[List.set_append_right _ _ (by rw[hl];exact Nat.le_refl _),hl,Nat.sub_self,List.drop_eq_getElem_cons h,List.set_cons_zero];simp[Nat.add_assoc]
def rsE(l:List UInt8):Option (List Int):=match Nums.rs l with|some xs=>if xs.length≤1024 then some xs else none|none=>none
theorem zKr{l:List UInt8}{xs:List Int}(h:Nums.rs l=some xs)(hl:xs.length≤1024):rsE l=some xs:=by unfold rsE;rw[h];simp[hl]
theorem zQd{l:List UInt8}{xs:List Int}(h:Nums.rs l=some xs)(hl:¬xs.length≤1024):rsE l=none:=by unfold rsE;rw[h];simp[hl]
theorem zQc{l:List UInt8}(h:Nums.rs l=none):rsE l=none:=by unfold rsE;rw[h]
theorem rsE_far{l:List UInt8}(h:4096<l.length):rsE l=none:=by
 cases e:Nums.rs l with
 |none=>exact zQc e
 |some xs=>exact zQd e (by have:=(Nums.rs_len e).1;omega)
theorem zUk{l:List UInt8}{xs:List Int}(h:rsE l=some xs):Nums.rs l=some xs∧xs.length≤1024:=by
 unfold rsE at h;cases e:Nums.rs l with
 |none=>rw[e]at h;cases h
 |some ys=>
  rw[e]at h;simp only at h;by_cases c:ys.length≤1024
  · rw[if_pos c]at h;obtain rfl:=Option.some.inj h;exact⟨rfl,c⟩
  · rw[if_neg c]at h;cases h
def dsE(a b:List UInt8):Option Nat:=match rsE a,rsE b with|some x,some y=>some (lv x y)|_,_=>none
theorem zRg{a b:List UInt8}{x y:List Int}(h1:rsE a=some x)(h2:rsE b=some y):dsE a b=some (lv x y):=by unfold dsE;rw[h1,h2]
theorem dsE_left{a b:List UInt8}(h1:rsE a=none):dsE a b=none:=by unfold dsE;rw[h1]
theorem zW3{a b:List UInt8}(h1:rsE b=none):dsE a b=none:=by unfold dsE;rw[h1];cases rsE a<;>rfl
def dsV(o:Option Nat):Value:=match o with|some n => .tuple #[.int .i64 (n:Int),.bool true]|none => .tuple #[.int .i64 0,.bool false]
end Ed
