/- Texts that were written apart, joined. -/
import Derived.Test.YthecngkdmnadoaaGreatDrawnE
import Derived.Test.YthecngkdmnadoaaGreatG24
import Derived.RangeFuncNested
import Derived.RangeFuncCalls
import Derived.OrdersIn
import Derived.Deep.Cut
import Derived.LoopIn
import Derived.TacticsInMore
import Derived.OwnWalkIn
namespace Go.Proofs.YthecngkdmnadoaaGreat
open Go.RowKit
set_option maxRecDepth 100000
structure Upd(F:Nat→Prop)(w w':World):Prop where
 os:w'.os=w.os
 tape:w'.tape=w.tape
 output:w'.output=w.output
 size:w.heap.size≤w'.heap.size
 block:∀k,k<w.heap.size→¬F k→w'.heap[k]?=w.heap[k]?
theorem Upd.refl(F:Nat→Prop)(w:World):Upd F w w:=⟨rfl,rfl,rfl,Nat.le_refl _,fun _ _ _=>rfl⟩
theorem Upd.trans{F G:Nat→Prop}{a b c:World}(h1:Upd F a b)(h2:Upd G b c)(hG:∀k,k<a.heap.size→G k→F k):Upd F a c:=
 ⟨h2.os.trans h1.os,h2.tape.trans h1.tape,h2.output.trans h1.output,Nat.le_trans h1.size h2.size,fun k hk hF=>(h2.block k (Nat.lt_of_lt_of_le hk h1.size) (fun g=>hF (hG k hk g))).trans (h1.block k hk hF)⟩
theorem Upd.mono{F G:Nat→Prop}{a b:World}(h:Upd F a b)(hG:∀k,F k→G k):Upd G a b:=⟨h.os,h.tape,h.output,h.size,fun k hk hF=>h.block k hk (fun f=>hF (hG k f))⟩
theorem Upd.of_below{F:Nat→Prop}{w w':World}(h:Below w.heap.size w w'):Upd F w w':=⟨h.os,h.tape,h.output,h.size,fun k hk _=>h.block k hk⟩
theorem Upd.of_only{fp:List Nat}{w w':World}(h:Only fp w w'):Upd (fun k=>k∈fp) w w':=⟨h.os,h.tape,h.output,h.size,fun k hk hn=>h.block k hk hn⟩
theorem Upd.only{fp:List Nat}{F:Nat→Prop}{w w':World}(h:Upd F w w')(hF:∀k,k<w.heap.size→F k→k∈fp):Only fp w w':=⟨h.os,h.tape,h.output,h.size,fun k hk hn=>h.block k hk fun f=>hn (hF k hk f)⟩
def noDefer(l:List Oper):Bool:=l.all fun o=>match o.op with | .defer _=>false|_=>true
section
variable {F:Fence} {n:Nat} {P:Program} {md:Region.Mode} {ops:Array Oper} {Q:Exit→Act→World→Prop}
theorem rowsIn_wide{row:String}{args:Array Value}{w:World}{R:Value→World→Prop}(h:Rows P row args w R):RowsIn Fence.wide n P row args w R:=
 fun c cs _=>let⟨v,w',r,s⟩:=h c cs;⟨v,w',r,stepsIn_wide.2 s⟩
theorem wp_toWide{o:Oper}{a:Act}{w:World}{K:Act→World→Prop}(h:o.wp P a w K Q):o.wpIn Fence.wide n P a w K Q:=by
 unfold Oper.wp at h;unfold Oper.wpIn;refine⟨fun _ _=>trivial,?_⟩;show o.uponIn Fence.wide n P a K Q ((o.semAt none a.eval).run P w);rw[Oper.semAt_none];generalize (execOp a.eval o).run P w=r at *;cases r with
 |ok x w'=>
  cases x with
  |enter f args=>exact⟨fun h=>by simp[Fence.wide]at h,callsIn_wide.2 h⟩
  |row r args=>exact⟨fun h=>by simp[Fence.wide]at h,rowsIn_wide h⟩
  |_=>first|exact h|exact h.elim
 |halt x w'=>cases x<;>first|exact h|exact h.elim
theorem wpOp_toWide{i:Nat}{a:Act}{w:World}{K:Act→World→Prop}(hlo:¬LetsOut Q)(h:wpOp P ops Q i K a w):wpOpIn Fence.wide n P ops Q i K a w:=by
 unfold wpOp at h;unfold wpOpIn;cases ho:ops[i]? with
 |none=>simp only[ho]at h ⊢;exact h
 |some o=>
  simp only[ho]at h ⊢;by_cases hw:Region.wanted o (yielded ops a.tmps)=true
  · rw[if_pos hw]at h ⊢
    rcases h with h|h
    · exact wp_toWide h
    · exact absurd h.2 hlo
  · rw[if_neg hw]at h ⊢
    exact⟨fun _ _=>trivial,h⟩
theorem wpAny_toWide(hlo:¬LetsOut Q):∀(fuel:Nat) (listed:Array Bool) (a:Act) (w:World),wpAny P md ops Q fuel listed a w→wpAnyIn Fence.wide n P md ops Q fuel listed a w
 |0,_,_,_,h=>h
 |fuel+1,_,_,_,h=>⟨h.1,fun i hi=>wpOpIn_mono (fun a' w' h'=>wpAny_toWide hlo fuel _ a' w' h') (wpOp_toWide hlo (h.2 i hi))⟩
theorem wpIn_toRound{o:Oper}{a:Act}{w:World}{K:Act→World→Prop}(lp:Nat)(hro:F.round=none)(hd:∀c,o.op ≠ .defer c)(h:o.wpIn F n P a w K Q):o.wpIn (F.inRound lp) n P a w K Q:=by
 unfold Oper.wpIn at *;refine⟨h.1,?_⟩;have h2:=h.2;rw[hro,Oper.semAt_none]at h2;rw[Oper.semAt_eq _ _ _ hd];generalize (execOp a.eval o).run P w=r at *;cases r with
 |ok x w'=>cases x<;>exact h2
 |halt x w'=>cases x<;>exact h2
theorem wpAnyIn_toRound(lp:Nat)(hro:F.round=none)(hd:noDefer ops.toList=true):∀(fuel:Nat) (listed:Array Bool) (a:Act) (w:World),wpAnyIn F n P md ops Q fuel listed a w→wpAnyIn (F.inRound lp) n P md ops Q fuel listed a w
 |0,_,_,_,h=>h
 |fuel+1,listed,a,w,h=>⟨h.1,fun i hi=>by
  refine wpOpIn_mono (fun a' w' h'=>wpAnyIn_toRound lp hro hd fuel _ a' w' h') ?_;have h2:=h.2 i hi;unfold wpOpIn at *;cases ho:ops[i]? with
  |none=>simp only[ho]at h2 ⊢;exact h2
  |some o=>
   simp only[ho]at h2 ⊢
   split
   · rename_i hw
     rw[if_pos hw]at h2;refine wpIn_toRound lp hro (fun c hc=>?_) h2;have:=List.all_eq_true.1 hd o (by rw[←Array.mem_def];exact Array.mem_of_getElem? ho);rw[hc]at this;cases this
   · rename_i hw
     rw[if_neg hw]at h2;exact h2⟩
theorem round_at{S:World→Prop}{id lp:Nat}{a:Act}{w:World}(k:Nat)(hk:ops.size=k)(hm:P.follows .mixedOrders=true)(hd:noDefer ops.toList=true)(hlo:¬LetsOut Q)(hS:S w.drew)(h:S w.drew→wpAnyH P .any ops Q S k (Array.replicate k false) a w.drew):(Code.region id ops true).wpIn (Fence.wide.inRound lp) n P Q a w:=by
 subst hk;exact wpIn_region_any hm (wpAnyIn_toRound lp rfl hd _ _ _ _ (wpAny_toWide hlo _ _ _ _ (wpAny_of_held _ _ _ _ (h hS))))
theorem round_atE{S:World→Prop}{id lp:Nat}{a:Act}{w:World}(k z:Nat)(hk:ops.size=k)(hm:P.follows .mixedOrders=true)(hd:noDefer ops.toList=true)(hlo:¬LetsOut Q)(h:wpAnyE P .any ops Q S z k (Array.replicate k false) a w.drew):(Code.region id ops true).wpIn (Fence.wide.inRound lp) n P Q a w:=by
 subst hk;exact wpIn_region_any hm (wpAnyIn_toRound lp rfl hd _ _ _ _ (wpAny_toWide hlo _ _ _ _ (wpAny_of_E _ _ _ _ h)))
end
theorem Upd.putR{W:World}(l:Nat)(o:Obj):Upd (fun k=>k=l) W (W.putObj l o):=
 ⟨rfl,rfl,rfl,by simp,fun k _ hk=>World.putObj_heap_other hk⟩
def roundD(I X:Nat→World→Prop)(d k:Nat)(W:World):Exit→Act→World→Prop
 |.normal,_,W'=>(∃G:Nat→Prop,Upd G W W'∧¬G d∧¬G (d+1))∧I (k+1) W'
 |.ret,_,W'=>(∃G:Nat→Prop,Upd G W W'∧¬G d∧¬G (d+1))∧X k W'
 |_,_,_=>False
theorem roundD_out(I X:Nat→World→Prop)(d k:Nat)(W:World):¬LetsOut (roundD I X d k W):=by
 rintro⟨a,w,h⟩;exact h
theorem then_out{f:Act→World→Prop}{Q:Exit→Act→World→Prop}(h:¬LetsOut Q):¬LetsOut (Exit.then f Q):=by
 rintro⟨a,w,hq⟩;exact h ⟨a,w,hq⟩
def SeqD(gf:Nat)(lb:Array Value)(enc:Nat→Array Value)(N:Nat)(T:World→Prop):Prop:=
 ∀(yl:Nat) (J X:Nat→World→Prop) (W:World),(∀k W,J k W→T W)→(∀k W,k<N→J k W→YieldAt Fence.wide 0 Tryz.prog yl (enc k) W fun e W'=>(e = .returned (.bool true)∧J (k+1) W')∨(e = .returned (.bool false)∧X k W'))→J 0 W →
  Calls Tryz.prog gf (#[.func (.yield yl) #[] #[]]++lb) W fun e W'=>(∃v,e = .returned v)∧(J N W'∨∃k,k<N∧X k W')
set_option maxHeartbeats 1000000 in
theorem wp_rangeD{g:Operand}{ps:Array Tmp}{assign body:Code}{Q:Exit→Act→World→Prop}{a:Act}{w:World}{gf:Nat}{lb:Array Value}{enc:Nat→Array Value}{N:Nat}{T:World→Prop}
 (hg:a.eval g = .func (.func gf) #[] lb) (eg:∀args w,(callFunc gf args).run Tryz.prog w = .ok (.enter gf args) w) (hseq:SeqD gf lb enc N T) (hps:∀k,ps.size=(enc k).size)
 (I X:Nat→World→Prop) (hT:∀k W,I k W→T W) (hI:∀k W W',I k W→Upd (fun j=>j=w.heap.size∨j=w.heap.size+1) W W'→I k W') (hX:∀k W W',X k W→Upd (fun j=>j=w.heap.size∨j=w.heap.size+1) W W'→X k W') (h0:I 0 w)
 (hround:∀l k W,k<N→I k W→w.heap.size+1<W.heap.size→assign.wpIn (Fence.wide.inRound l) 0 Tryz.prog (Exit.then (fun a1 W1=>Upd (fun _=>False) W W1∧∀W2,Upd (fun j=>j=w.heap.size+1) W1 W2→body.wpIn (Fence.wide.inRound l) 0 Tryz.prog (roundD I X w.heap.size k W2) a1 W2) (fun _ _ _=>False)) { tmps:=(ps.zip (enc k)).foldl (fun t (p,v)=>t.setIfInBounds p v) a.tmps,defers:=[] } W)
 (hdone:∀W,I N W→W.heap[w.heap.size]?=some (.deferred (some []))→Q .normal { a with defers:={ target := .collected w.heap.size,args:=#[] }::a.defers } W)
 (hstop:∀k W,k<N→X k W→W.heap[w.heap.size]?=some (.deferred (some []))→Code.ret.wp Tryz.prog Q { a with defers:={ target := .collected w.heap.size,args:=#[] }::a.defers } W):
 (Code.rangeFunc g ps assign body).wp Tryz.prog Q a w:=by
 refine(wpIn_wide (n:=0)).1 (wpIn_rangeFunc ?_);intro fn hfn;rw[Fence.wide_round];obtain⟨rec,hrec⟩:∃rec:LoopState→Option Code→Loop,rec=fun st pe=>{ state:=st,pending:=pe,fn,tmps:=a.tmps,params:=ps,assign,body,defers:=w.heap.size }:=⟨_,rfl⟩
 obtain⟨W1,hW1⟩:∃W1,(w.alloc (.deferred (some []))).alloc (.loop (rec .ready none))=W1:=⟨_,rfl⟩;have hL1:W1.heap[w.heap.size+1]?=some (.loop (rec .ready none)):=by
  rw[←hW1];have:=World.alloc_heap_new (w.alloc (.deferred (some []))) (.loop (rec .ready none));rwa [World.size_alloc]at this
 have hK1:W1.heap[w.heap.size]?=some (.deferred (some [])):=by
  rw[←hW1];exact(Below.heap_alloc _ _ _ (by simp)).trans (World.alloc_heap_new w _)
 have hb1:Below w.heap.size w W1:=by rw[←hW1];exact((Below.refl _ w).alloc (Nat.le_refl _) _).alloc (by simp) _
 let J:Nat→World→Prop:=fun k W=>W.heap[w.heap.size+1]?=some (.loop (rec .ready none))∧W.heap[w.heap.size]?=some (.deferred (some []))∧I k W
 let Z:Nat→World→Prop:=fun k W=>W.heap[w.heap.size+1]?=some (.loop (rec .done (some .ret)))∧W.heap[w.heap.size]?=some (.deferred (some []))∧X k W
 refine⟨w.heap.size+1,[{ target := .collected w.heap.size,args:=#[] }],W1,{ target := .fn (.func gf) lb,args:=#[.func (.yield (w.heap.size+1)) #[] #[]] },W1,gf,
  #[.func (.yield (w.heap.size+1)) #[] #[]]++lb,W1,?_,?_,fun _ _=>trivial,?_,fun h=>by simp[Fence.wide]at h,?_⟩
 · rw[←hW1,hrec];exact run_enterLoop_outer _ _ _ _ _
 · simp only[resolve,hg]
   simp[go_sem]
 · simp[invoke,go_sem,eg]
 · refine callsIn_wide.2 ((hseq (w.heap.size+1) J Z W1 (fun k W h=>hT k W h.2.2) ?_ ⟨hL1,hK1,hI _ _ _ h0 (Upd.of_below hb1)⟩).mono ?_)
   · rintro k W hk ⟨hr,hd,hi⟩
     have hlt:w.heap.size+1<W.heap.size:=(Array.getElem?_eq_some_iff.1 hr).1;have hy:=run_yield (P:=Tryz.prog) (args:=enc k) hr (by rw[hrec];exact(hps k).symm);rw[hrec]at hy;refine⟨fn,_,assign,body,hy,roundIn_of_wpIn hfn (wpIn_mono (hround (w.heap.size+1) k W hk hi hlt) ?_)⟩;clear hy;intro e0 a0 Wa hp0;cases e0 with
     |exit _=>exact hp0.elim
     |goto _=>exact hp0.elim
     |ret=>exact hp0.elim
     |panic _=>exact hp0.elim
     |outgrown=>exact hp0.elim
     |normal=>
     obtain⟨hu0,hbody⟩:=hp0;have hra:Wa.heap[w.heap.size+1]?=some (.loop (rec .ready none)):=(hu0.block _ hlt id).trans hr;have hda:Wa.heap[w.heap.size]?=some (.deferred (some [])):=(hu0.block _ (by omega) id).trans hd;have hlta:w.heap.size+1<Wa.heap.size:=(Array.getElem?_eq_some_iff.1 hra).1;refine⟨_,run_beginRound hra (by rw[hrec]),?_⟩;have hl2:(Wa.putObj (w.heap.size+1) (.loop { rec .ready none with state := .busy })).heap[w.heap.size+1]?=some (.loop { rec .ready none with state := .busy }):=World.putObj_heap_same hlta;have hk2:(Wa.putObj (w.heap.size+1) (.loop { rec .ready none with state := .busy })).heap[w.heap.size]?=some (.deferred (some [])):=(World.putObj_heap_other (by omega)).trans hda;have hbody2:=hbody _ (Upd.putR (W:=Wa) (w.heap.size+1) (.loop { rec .ready none with state := .busy }));clear hbody;generalize (Wa.putObj (w.heap.size+1) (.loop { rec .ready none with state := .busy }))=Wb at hl2 hk2 hbody2;have hszb:w.heap.size+1<Wb.heap.size:=(Array.getElem?_eq_some_iff.1 hl2).1;refine wpIn_mono hbody2 ?_;rintro e a3 W3 hp;cases e with
     |normal=>
      obtain⟨⟨G,hu3,n2,n1⟩,hi3⟩:=hp;have hl3:=(hu3.block _ hszb n1).trans hl2;have hd3:=(hu3.block _ (by omega) n2).trans hk2;have he:=run_endRound (P:=Tryz.prog) none hl3;rw[hrec]at he;refine⟨_,_,he,.inl ⟨rfl,?_,(World.putObj_heap_other (by omega)).trans hd3,hI _ _ _ hi3 ((Upd.putR _ _).mono fun k e => .inr e)⟩⟩;rw[hrec];exact World.putObj_heap_same (Array.getElem?_eq_some_iff.1 hl3).1
     |ret=>
      obtain⟨⟨G,hu3,n2,n1⟩,hi3⟩:=hp;have hl3:=(hu3.block _ hszb n1).trans hl2;have hd3:=(hu3.block _ (by omega) n2).trans hk2;have he:=run_endRound (P:=Tryz.prog) (some .ret) hl3;rw[hrec]at he;refine⟨_,_,he,.inr ⟨rfl,?_,(World.putObj_heap_other (by omega)).trans hd3,hX _ _ _ hi3 ((Upd.putR _ _).mono fun k e => .inr e)⟩⟩;rw[hrec];exact World.putObj_heap_same (Array.getElem?_eq_some_iff.1 hl3).1
     |exit id=>exact hp.elim
     |goto t=>exact hp.elim
     |panic ch=>exact hp.elim
     |outgrown=>exact hp.elim
   · rintro e W2 ⟨⟨v,rfl⟩,⟨hr,hd,hi⟩|⟨k,hk,hr,hd,hx⟩⟩
     · refine⟨none,_,by have:=run_endLoop (P:=Tryz.prog) hr (by rw[hrec];simp);rw[hrec]at this;exact this,?_⟩
       exact hdone _ (hI _ _ _ hi ((Upd.putR _ _).mono fun k e => .inr e)) ((World.putObj_heap_other (by omega)).trans hd)
     · refine⟨some .ret,_,by have:=run_endLoop (P:=Tryz.prog) hr (by rw[hrec];simp);rw[hrec]at this;exact this,?_⟩
       exact wpIn_wide.2 (hstop k _ hk (hX _ _ _ hx ((Upd.putR _ _).mono fun k e => .inr e)) ((World.putObj_heap_other (by omega)).trans hd))
end Go.Proofs.YthecngkdmnadoaaGreat

namespace Go.Proofs.YthecngkdmnadoaaGreat
open Go.RowKit
set_option maxRecDepth 100000
set_option maxHeartbeats 400000 in
theorem behind_any(ib ix:Nat)(x:Pl)(w:World)(hc:w.cell? ⟨ib,0,none⟩=some (.int .u64 (ix:Int))):Calls Tryz.prog 99 #[.agg #[.int .u64 (x.1:Int),.int .u64 (x.2:Int)],.pointer (some ⟨ib,0,none⟩)] w fun e w'=>e = .returned (.bool (decide (ix≤x.2)))∧Below w.heap.size w w':=by
 have hlt:=lt_of_cell hc;go_enter Tryz.func99,Tryz.ntmps99;go_wp2;go_ret;exact⟨by first|rfl|simp,(Below.refl _ w).alloc (Nat.le_refl _) _⟩
def behindF(ib:Nat):Value := .func (.func 99) #[] #[.pointer (some ⟨ib,0,none⟩)]
def IdxQ(ix:Nat)(l:List Pl)(r:Int):Prop:=(r = -1∧∀x∈l,¬ix≤x.2)∨∃P x S,l=P++x::S∧(∀y∈P,¬ix≤y.2)∧ix≤x.2∧r=(P.length:Nat)
set_option maxHeartbeats 2000000 in
theorem indexFuncQ_any(ib ix:Nat)(w:World)(v:Value)(l:List Pl)(h:QRow w v l)(hl:l.length<549755813888)(hc:w.cell? ⟨ib,0,none⟩=some (.int .u64 (ix:Int))):
 Calls Tryz.prog 122 #[v,behindF ib] w fun e w'=>∃r:Int,e = .returned (.int .i64 r)∧Below w.heap.size w w'∧IdxQ ix l r:=by
 unfold behindF;have hib:=lt_of_cell hc;have HCI:Hid (w.cell? ⟨ib,0,none⟩=some (.int .u64 (ix:Int))):=hc;clear hc;obtain⟨ad,cap,rfl,_⟩:=id h;have HR:Hid (QRow w (.slice ad l.length cap) l):=h;obtain⟨n,hn⟩:∃n,l.length=n:=⟨_,rfl⟩;have HN:Hid (l.length=n):=hn;have eg:∀args w,(callFunc 99 args).run Tryz.prog w = .ok (.enter 99 args) w:=enters_of Tryz.func99 (by kernel_rfl) rfl;rw[hn]at HR hl;clear h;rw[hn];clear hn;go_enter Tryz.func122,Tryz.ntmps122;go_wp2
 go_loopg [5,8] n (fun g _ s8 wr=>∃(k:Nat),s8 = .int .i64 k∧k≤n∧n-k≤g∧Hid (Below w.heap.size w wr)∧Hid (∀x∈l.take k,¬ix≤x.2))
 case atStart=>exact⟨0,rfl,Nat.zero_le _,by omega,Below.refl _ _,by show ∀x∈l.take 0,_;simp⟩
 case round=>
  obtain⟨k,rfl,hk,hg,HB,HA⟩:=hrel;by_cases hlt:k<n
  · have hltz:(k:Int)<(n:Int):=by omega
    obtain⟨x,hx⟩:∃x,l[k]?=some x:=⟨l[k]'(by have:=HN.out;omega),List.getElem?_eq_getElem _⟩;obtain⟨b,off,rfl,hb,hcell⟩:=(HR.out.below HB.out).at (by omega);obtain⟨c0,c1⟩:=hcell k x hx;have HX:Hid (l[k]?=some x):=hx;have hcw:wr.cell? ⟨ib,0,none⟩=some (.int .u64 (ix:Int)):=(HB.out.cell (p:=⟨ib,0,none⟩) hib).trans HCI.out;have hibw:ib<wr.heap.size:=lt_of_cell hcw;(have HCW:Hid (∀W,Below wr.heap.size wr W→Calls Tryz.prog 99 #[.agg #[.int .u64 (x.1:Int),.int .u64 (x.2:Int)],.pointer (some ⟨ib,0,none⟩)] W fun e w'=>e = .returned (.bool (decide (ix≤x.2)))∧Below W.heap.size W w'):=fun W hW=>behind_any ib ix x W ((hW.cell (p:=⟨ib,0,none⟩) hibw).trans hcw));clear hx hcell hcw;by_cases h0:ix≤x.2
    · have h0b:decide (ix≤x.2)=true:=by simpa using h0
      have H0:Hid (ix≤x.2):=h0;clear h0;rw[h0b]at HCW;clear h0b;go_wp2_with (first|(go_at_fn 99;refine(HCW.out _ (Below.refl _ _)).mono ?_;rintro e w2 ⟨rfl,hb2⟩)|(go_at_call 99;refine(HCW.out _ (Below.refl _ _)).mono ?_;rintro e w2 ⟨rfl,hb2⟩));go_ret;obtain⟨hk2,ex⟩:=List.getElem?_eq_some_iff.1 HX.out;refine⟨_,rfl,HB.out.trans (hb2.mono HB.out.size),.inr ⟨l.take k,x,l.drop (k+1),?_,HA.out,H0.out,?_⟩⟩
      · rw[←ex,←List.drop_eq_getElem_cons hk2,List.take_append_drop]
      · rw[List.length_take,Nat.min_eq_left (by omega)]
    · have h0b:decide (ix≤x.2)=false:=by simpa using h0
      have H0:Hid (¬ix≤x.2):=h0;clear h0;rw[h0b]at HCW;clear h0b;go_wp2_with (first|(go_at_fn 99;refine(HCW.out _ (Below.refl _ _)).mono ?_;rintro e w2 ⟨rfl,hb2⟩)|(go_at_call 99;refine(HCW.out _ (Below.refl _ _)).mono ?_;rintro e w2 ⟨rfl,hb2⟩));go_roundg (n-(k+1));case measure=>omega
      case rel=>
       refine⟨k+1,by go_num,by omega,Nat.le_refl _,HB.out.trans (hb2.mono HB.out.size),?_⟩;show ∀y∈l.take (k+1),_;intro y hy;obtain⟨hk2,ex⟩:=List.getElem?_eq_some_iff.1 HX.out;rw[List.take_succ_eq_append_getElem hk2,ex]at hy;rcases List.mem_append.1 hy with h|h
       · exact HA.out y h
       · rw[List.mem_singleton.1 h];exact H0.out
  · have hltz:¬(k:Int)<(n:Int):=by omega
    go_wp2;go_ret;refine⟨_,rfl,HB.out,.inl ⟨rfl,?_⟩⟩;have h:=HA.out;rw[List.take_of_length_le (by have:=HN.out;omega)]at h;exact h
set_option maxHeartbeats 1000000 in
theorem containsFuncQ_any(ib ix:Nat)(w:World)(v:Value)(l:List Pl)(h:QRow w v l)(hl:l.length<549755813888)(hc:w.cell? ⟨ib,0,none⟩=some (.int .u64 (ix:Int))):
 Calls Tryz.prog 100 #[v,behindF ib] w fun e w'=>e = .returned (.bool (l.any fun x=>decide (ix≤x.2)))∧Below w.heap.size w w':=by
 have HI:Hid (Calls Tryz.prog 122 #[v,behindF ib] w fun e w'=>∃r:Int,e = .returned (.int .i64 r)∧Below w.heap.size w w'∧(0≤r↔(l.any fun x=>decide (ix≤x.2))=true)):=by
  refine(indexFuncQ_any ib ix w v l h hl hc).mono ?_;rintro e w' ⟨r,rfl,hb,hr⟩;refine⟨r,rfl,hb,?_⟩;rcases hr with⟨rfl,hall⟩|⟨P,x,S,rfl,_,hx,rfl⟩
  · constructor
    · intro h;omega
    · intro h
      obtain⟨x,hx,hx2⟩:=List.any_eq_true.1 h;exact absurd (by simpa using hx2) (hall x hx)
  · exact⟨fun _=>List.any_eq_true.2 ⟨x,by simp,by simpa using hx⟩,fun _=>by omega⟩
 obtain⟨ad,cap,rfl,_⟩:=h;obtain⟨t,ht⟩:∃t,(l.any fun x=>decide (ix≤x.2))=t:=⟨_,rfl⟩;rw[ht]at HI ⊢;unfold behindF at HI ⊢;clear hc hl ht;go_enter Tryz.func100,Tryz.ntmps100;go_wp2_with (go_at_call 122;refine HI.out.mono ?_;rintro e w1 ⟨r,rfl,hb,hr⟩);go_ret;refine⟨?_,hb⟩;have e:decide (0≤r)=t:=by
  cases t
  · simp at hr ⊢;omega
  · simp at hr ⊢;omega
 rw[←e];rfl
end Go.Proofs.YthecngkdmnadoaaGreat

namespace Go.Proofs.YthecngkdmnadoaaGreat
open Go.RowKit
set_option maxRecDepth 100000
def keepQ(ix:Nat)(l:List Pl):List Pl:=l.filter fun x=>!decide (ix≤x.2)
theorem drop_atQ(l:List Pl)(k:Nat)(x:Pl)(h:l[k]?=some x):l.drop k=x::l.drop (k+1):=by
 obtain⟨hk,e⟩:=List.getElem?_eq_some_iff.1 h;rw[List.drop_eq_getElem_cons hk,e]
theorem keepQ_all{ix:Nat}{l:List Pl}(h:∀x∈l,¬ix≤x.2):keepQ ix l=l:=List.filter_eq_self.2 fun x hx=>by simpa using h x hx
theorem keepQ_append(ix:Nat)(a b:List Pl):keepQ ix (a++b)=keepQ ix a++keepQ ix b:=List.filter_append ..
theorem keepQ_len(ix:Nat)(a:List Pl):(keepQ ix a).length≤a.length:=List.length_filter_le ..
structure DelQ(ix:Nat)(l:List Pl)(i j n:Nat)(m:List Pl):Prop where
 ij:i<j
 jn:j≤n
 len:l.length=n
 ex:∃M,m=keepQ ix (l.take j)++(M++l.drop j)∧(keepQ ix (l.take j)).length=i∧i+M.length=j
theorem DelQ.mlen{ix:Nat}{l m:List Pl}{i j n:Nat}(h:DelQ ix l i j n m):m.length=n:=by
 obtain⟨M,e,h1,h2⟩:=h.ex;have:=h.len;have:=h.jn;rw[e,List.length_append,List.length_append,List.length_drop];omega
theorem take_succQ{l:List Pl}{j:Nat}{y:Pl}(h:l[j]?=some y):l.take (j+1)=l.take j++[y]:=by
 obtain⟨hk,e⟩:=List.getElem?_eq_some_iff.1 h;rw[List.take_succ_eq_append_getElem hk,e]
theorem DelQ.at{ix:Nat}{l m:List Pl}{i j n:Nat}(h:DelQ ix l i j n m){y:Pl}(hy:l[j]?=some y):m[j]?=some y:=by
 obtain⟨M,e,h1,h2⟩:=h.ex;rw[e,←List.append_assoc,List.getElem?_append_right (by rw[List.length_append];omega),List.length_append,show j-((keepQ ix (l.take j)).length+M.length)=0 by omega,drop_atQ l j y hy];rfl
theorem DelQ.skip{ix:Nat}{l m:List Pl}{i j n:Nat}(h:DelQ ix l i j n m){y:Pl}(hy:l[j]?=some y)(h0:ix≤y.2):DelQ ix l i (j+1) n m:=by
 obtain⟨M,e,h1,h2⟩:=h.ex;have hk:=(List.getElem?_eq_some_iff.1 hy).1;have ek:keepQ ix (l.take (j+1))=keepQ ix (l.take j):=by rw[take_succQ hy,keepQ_append];simp[keepQ,h0]
 refine⟨by have:=h.ij;omega,by have:=h.len;omega,h.len,M++[y],?_,by rw[ek];exact h1,by simp;omega⟩;rw[ek,e,drop_atQ l j y hy];simp
theorem DelQ.put{ix:Nat}{l m:List Pl}{i j n:Nat}(h:DelQ ix l i j n m){y:Pl}(hy:l[j]?=some y)(h0:¬ix≤y.2):DelQ ix l (i+1) (j+1) n (m.set i y):=by
 obtain⟨M,e,h1,h2⟩:=h.ex;have hk:=(List.getElem?_eq_some_iff.1 hy).1;have ek:keepQ ix (l.take (j+1))=keepQ ix (l.take j)++[y]:=by rw[take_succQ hy,keepQ_append];simp[keepQ,h0]
 have hij:=h.ij;cases M with
 |nil=>simp at h2;omega
 |cons m0 M1=>
  refine⟨by omega,by have:=h.len;omega,h.len,M1++[y],?_,by rw[ek];simp;omega,by simp at h2 ⊢;omega⟩;rw[ek,e,drop_atQ l j y hy,List.set_append_right _ _ (by omega),show i-(keepQ ix (l.take j)).length=0 by omega];simp
theorem DelQ.start{ix:Nat}{P S:List Pl}{x:Pl}(h:∀y∈P,¬ix≤y.2)(h0:ix≤x.2){n:Nat}(hn:(P++x::S).length=n):DelQ ix (P++x::S) P.length (P.length+1) n (P++x::S):=by
 have e1:(P++x::S).take (P.length+1)=P++[x]:=by rw[List.take_append,List.take_of_length_le (by omega)];simp
 have e2:(P++x::S).drop (P.length+1)=S:=by rw[List.drop_append,List.drop_eq_nil_of_le (by omega)];simp
 have ek:keepQ ix (P++[x])=P:=by rw[keepQ_append,keepQ_all h];simp[keepQ,h0]
 refine⟨by omega,by simp at hn;omega,hn,[x],?_,?_,by simp⟩
 · rw[e1,e2,ek];simp
 · rw[e1,ek]
theorem DelQ.fin{ix:Nat}{l m:List Pl}{i j n:Nat}(h:DelQ ix l i j n m)(hj:¬j<n):m.take i=keepQ ix l:=by
 obtain⟨M,e,h1,h2⟩:=h.ex;have:=h.len;rw[e,List.take_append_of_le_length (by omega),←h1,List.take_length,List.take_of_length_le (by omega)]
theorem del_factsQ{wr w2:World}{g o:Nat}{y z:Pl}{T:TypeId}(hb:Below (wr.alloc (.cells #[.int .u64 (y.1:Int),.int .u64 (y.2:Int)] T)).heap.size (wr.alloc (.cells #[.int .u64 (y.1:Int),.int .u64 (y.2:Int)] T)) w2)(hg:g<wr.heap.size)(d0:wr.cell? ⟨g,o,none⟩=some (.int .u64 (z.1:Int)))(d1:wr.cell? ⟨g,o+1,none⟩=some (.int .u64 (z.2:Int)))(f0:wr.frozen? ⟨g,o,none⟩=false)(f1:wr.frozen? ⟨g,o+1,none⟩=false):
 w2.cell? ⟨wr.heap.size,0,none⟩=some (.int .u64 (y.1:Int))∧w2.cell? ⟨wr.heap.size,1,none⟩=some (.int .u64 (y.2:Int))∧w2.cell? ⟨g,o,none⟩=some (.int .u64 (z.1:Int))∧w2.cell? ⟨g,o+1,none⟩=some (.int .u64 (z.2:Int))∧w2.frozen? ⟨g,o,none⟩=false∧w2.frozen? ⟨g,o+1,none⟩=false:=by
 have t:=(TwoQ.new wr y T).below (by simp) hb;have hb3:Below wr.heap.size wr w2:=((Below.refl _ wr).alloc (Nat.le_refl _) _).trans (hb.mono (by simp));have hblk:=hb3.block g hg;refine⟨t.c0,t.c1,(hb3.cell (p:=⟨g,o,none⟩) hg).trans d0,(hb3.cell (p:=⟨g,o+1,none⟩) hg).trans d1,?_,?_⟩
 · rw[←f0];simp[World.frozen?,hblk]
 · rw[←f1];simp[World.frozen?,hblk]
theorem cell_but{g:Nat}{w w':World}(h:But g w w'){ib:Nat}(hg:g≠ib){u:Value}(hc:w.cell? ⟨ib,0,none⟩=some u):w'.cell? ⟨ib,0,none⟩=some u:=by
 have hlt:=lt_of_cell hc;unfold World.cell? at hc ⊢;rw[h.block ib hlt (Ne.symm hg)];exact hc
set_option maxHeartbeats 1000000 in
theorem deleteFuncQ_any(ib ix B:Nat)(w:World)(ad:Option Addr)(cap:Nat)(l:List Pl)(h:QOwn B w (.slice ad l.length cap) l)(hl:l.length<549755813888)(hc:w.cell? ⟨ib,0,none⟩=some (.int .u64 (ix:Int)))(hown:∀x∈ownB ad,x≠ib):
 Calls Tryz.prog 102 #[.slice ad l.length cap,behindF ib] w fun e w'=>e = .returned (.slice ad (keepQ ix l).length cap)∧QOwn B w' (.slice ad (keepQ ix l).length cap) (keepQ ix l)∧Only (ownB ad) w w':=by
 have hix:=indexFuncQ_any ib ix w (.slice ad l.length cap) l h.row hl hc;unfold behindF at hix ⊢;have eg:∀args w,(callFunc 99 args).run Tryz.prog w = .ok (.enter 99 args) w:=enters_of Tryz.func99 (by kernel_rfl) rfl;have HO:Hid (QOwn B w (.slice ad l.length cap) l):=h;have HC0:Hid (w.cell? ⟨ib,0,none⟩=some (.int .u64 (ix:Int))):=hc;clear h hc;go_enter Tryz.func102,Tryz.ntmps102
 go_upto_if 12 with(go_at_call 122;refine hix.mono ?_;rintro e w1 ⟨r,rfl,hb1,hres⟩)
 rcases hres with⟨rfl,hall⟩|⟨P,x,S,hpx,hP,hx0,rfl⟩
 · have HK:Hid (keepQ ix l=l):=keepQ_all hall
   clear hall;go_wp2;go_ret;rw[HK.out];exact⟨rfl,HO.out.below hb1,Only.of_below hb1⟩
 · obtain⟨g,hg⟩:∃g,ad=some ⟨g,0,none⟩:=by
    obtain⟨_,⟨e,h0⟩|⟨g,cap,cur,e,_⟩⟩:=HO.out
    · rw[hpx]at h0;simp at h0
    · simp only[Value.slice.injEq]at e
      exact⟨g,e.1⟩
   subst hg;have hgi:g≠ib:=hown g (by simp[ownB]);have HO1:Hid (QOwn B w1 (.slice (some ⟨g,0,none⟩) l.length cap) l):=HO.out.below hb1;have HB1:Hid (But g w w1):=But.of_below hb1;obtain⟨n,hn⟩:∃n,l.length=n:=⟨_,rfl⟩;(have HD:Hid (DelQ ix l P.length (P.length+1) n l):=by show DelQ _ _ _ _ _ _;rw[hpx];exact DelQ.start hP hx0 (by rw[←hpx];exact hn));have HN:Hid (l.length=n):=hn;(have hp0:¬((P.length:Int) = -1):=by omega);have hp0b:((P.length:Int) == -1)=false:=beq_eq_false_iff_ne.2 hp0;(have hPn:P.length<n:=by rw[←hn,hpx];simp);obtain⟨i0,hi0⟩:∃i0,P.length=i0:=⟨_,rfl⟩;rw[hn]at HO1 hl;rw[hi0]at HD hp0 hp0b hPn;clear hb1 hpx hP hx0 hix HO hown;rw[hi0,hn];clear hi0 hn;go_wp2
   go_loopg [5,6,7] n (fun g2 s5 s6 _ wr=>∃(i j:Nat) (m:List Pl),s5 = .int .i64 i∧s6 = .int .i64 j∧i<j∧j≤n∧n-j≤g2∧Hid (DelQ ix l i j n m)∧Hid (QOwn B wr (.slice (some ⟨g,0,none⟩) n cap) m)∧Hid (But g w wr))
   case atStart=>exact⟨i0,i0+1,l,rfl,by go_num,by omega,by omega,by omega,HD,HO1,HB1⟩
   case round=>
    clear HD HO1 HB1;obtain⟨i,j,m,rfl,rfl,hij,hjn,hg2,HD,HO,HB⟩:=hrel;by_cases hlt:j<n
    · have hltz:(j:Int)<(n:Int):=by omega
      obtain⟨y,hy⟩:∃y,l[j]?=some y:=⟨l[j]'(by have:=HN.out;omega),List.getElem?_eq_getElem _⟩;have HY:Hid (l[j]?=some y):=hy;obtain⟨cur,hBg,hh,e1,e2,e3,e4,hcell,hf⟩:=HO.out.block;have hgs:g<wr.heap.size:=(Array.getElem?_eq_some_iff.1 hh).1;obtain⟨c0,c1⟩:=hcell j y (HD.out.at hy);obtain⟨z,hz⟩:∃z,m[i]?=some z:=⟨m[i]'(by have:=HD.out.mlen;omega),List.getElem?_eq_getElem _⟩;obtain⟨d0,d1⟩:=hcell i z hz;have f0:=hf (i*2);have f1:=hf (i*2+1);have hcw:=cell_but HB.out hgi HC0.out;have hibw:ib<wr.heap.size:=lt_of_cell hcw;(have HCW:Hid (∀W,Below wr.heap.size wr W→Calls Tryz.prog 99 #[.agg #[.int .u64 (y.1:Int),.int .u64 (y.2:Int)],.pointer (some ⟨ib,0,none⟩)] W fun e w'=>e = .returned (.bool (decide (ix≤y.2)))∧Below W.heap.size W w'):=fun W hW=>behind_any ib ix y W ((hW.cell (p:=⟨ib,0,none⟩) hibw).trans hcw));clear hh e1 e2 e3 e4 hcell hf hy hz hcw hBg;by_cases h0:ix≤y.2
      · have h0b:decide (ix≤y.2)=true:=by simpa using h0
        have HS:Hid (DelQ ix l i (j+1) n m):=HD.out.skip HY.out h0;clear h0;rw[h0b]at HCW;clear h0b;go_wp2_with (first|(go_at_fn 99;refine(HCW.out _ ((Below.refl _ wr).alloc (Nat.le_refl _) _)).mono ?_;rintro e w2 ⟨rfl,hb2⟩)|(go_at_call 99;refine(HCW.out _ ((Below.refl _ wr).alloc (Nat.le_refl _) _)).mono ?_;rintro e w2 ⟨rfl,hb2⟩));go_roundg (n-(j+1));case measure=>omega
        case rel=>
         have hb3:=((Below.refl _ wr).alloc (Nat.le_refl _) _).trans (hb2.mono (by simp));exact⟨i,j+1,m,rfl,by go_num,by omega,by omega,Nat.le_refl _,HS,HO.out.below hb3,HB.out.trans (But.of_below hb3)⟩
      · have h0b:decide (ix≤y.2)=false:=by simpa using h0
        have HS:Hid (DelQ ix l (i+1) (j+1) n (m.set i y)):=HD.out.put HY.out h0;clear h0;rw[h0b]at HCW;clear h0b;go_wp2_with (first|(go_at_fn 99;refine(HCW.out _ ((Below.refl _ wr).alloc (Nat.le_refl _) _)).mono ?_;rintro e w2 ⟨rfl,hb2⟩;obtain⟨q0,q1,q2,q3,q4,q5⟩:=del_factsQ hb2 hgs d0 d1 f0 f1)|(go_at_call 99;refine(HCW.out _ ((Below.refl _ wr).alloc (Nat.le_refl _) _)).mono ?_;rintro e w2 ⟨rfl,hb2⟩;obtain⟨q0,q1,q2,q3,q4,q5⟩:=del_factsQ hb2 hgs d0 d1 f0 f1));have hb3:=((Below.refl _ wr).alloc (Nat.le_refl _) _).trans (hb2.mono (by simp));have HO2:Hid (QOwn B (w2.setCells g (i*2) (encQ y)) (.slice (some ⟨g,0,none⟩) n cap) (m.set i y)):=(HO.out.below hb3).set i y;have HB2:Hid (But g w (w2.setCells g (i*2) (encQ y))):=(HB.out.trans (But.of_below hb3)).setCells _ _;go_roundg (n-(j+1));(case measure=>omega);case rel=>exact⟨i+1,j+1,m.set i y,by go_num,by go_num,by omega,by omega,Nat.le_refl _,HS,HO2.out,HB2.out⟩
    · have hltz:¬(j:Int)<(n:Int):=by omega
      obtain⟨cur,hBg,hh,e1,e2,e3,e4,hcell,hf⟩:=HO.out.block;(have hic:i<cap:=by omega);(have hin:i<n:=by omega);obtain⟨k,hk⟩:∃k,i+k=n:=⟨n-i,by omega⟩;have HF:Hid (m.take i=keepQ ix l):=HD.out.fin hlt;have HFL:Hid ((keepQ ix l).length=i):=by
       show _=_;rw[←HF.out,List.length_take,HD.out.mlen];omega
      obtain⟨vs,hvs⟩:=clear_ownQ HO.out i k (cap-i) hk 0;have HO2:Hid (QOwn B (wr.setCells g (i*2) vs) (.slice (some ⟨g,0,none⟩) i cap) (m.take i)):=HO.out.cut i (by omega) vs;have HB2:Hid (But g w (wr.setCells g (i*2) vs)):=HB.out.setCells _ _;(have eni:n-i=k:=by omega);(have eniz:(n:Int)-(i:Int)=(k:Int):=by omega);clear hh e1 e2 e3 e4 hcell hf hBg;go_wp2;go_ret;have hB:=HB2.out;have hO2:=HO2.out;rw[HF.out]at hO2;rw[HFL.out];exact⟨rfl,hO2,⟨hB.os,hB.tape,hB.output,hB.size,fun k hk hx=>hB.block k hk fun e=>hx (by simp[ownB,e])⟩⟩
end Go.Proofs.YthecngkdmnadoaaGreat

namespace Go.Proofs.YthecngkdmnadoaaGreat
open Go.RowKit
set_option maxRecDepth 100000
attribute [local go_sem] Oper.semAt_some
def plV(a:Pl):Value := .agg #[.int .u64 (a.1:Int),.int .u64 (a.2:Int)]
def zPl:Pl:=(0,0)
structure BkQ(bx:Nat)(ad:Option Addr)(cap:Nat)(l:List Pl)(W:World):Prop where
 box:W.cell? ⟨bx,0,none⟩=some (.slice ad l.length cap)
 row:QRow W (.slice ad l.length cap) l
theorem BackwardQ_any(ad:Option Addr)(n cap:Nat)(w:World):Calls Tryz.prog 101 #[.slice ad n cap] w fun e w'=>e = .returned (.func (.func 123) #[] #[.pointer (some ⟨w.heap.size,0,none⟩)])∧w'=w.alloc (.cells #[.slice ad n cap] 81):=by
 go_enter Tryz.func101,Tryz.ntmps101;go_wp2;go_ret;exact⟨rfl,rfl⟩
set_option maxHeartbeats 1000000 in
theorem back_seqQ(bx:Nat)(ad:Option Addr)(cap:Nat)(l:List Pl)(hl:l.length≤9223372036854775807):
 SeqD 123 #[.pointer (some ⟨bx,0,none⟩)] (fun k=>#[.int .i64 ((l.length-1-k:Nat):Int),plV (l.getD (l.length-1-k) zPl)]) l.length (BkQ bx ad cap l):=by
 intro yl J X W hT hy h0;have hb0:=(hT 0 W h0).box;obtain⟨n,hn⟩:∃n,l.length=n:=⟨_,rfl⟩;have HT:Hid (∀k W,J k W→BkQ bx ad cap l W):=hT;have HY:Hid (∀k W,k<n→J k W→YieldAt Fence.wide 0 Tryz.prog yl #[.int .i64 ((n-1-k:Nat):Int),plV (l.getD (n-1-k) zPl)] W fun e W'=>(e = .returned (.bool true)∧J (k+1) W')∨(e = .returned (.bool false)∧X k W')):=by
  have:=hy;rw[hn]at this;exact this
 have HN:Hid (l.length=n):=hn;rw[hn]at hb0 hl ⊢;clear hT hy hn;have hdd:∀k:Nat,(Fence.wide.depth.isSome=true→1≤k):=fun k h=>by simp[Fence.wide]at h
 refine(callsIn_wide (n:=1)).1 ?_;refine callsIn_of_wp Tryz.func123 rfl trivial ?_ rfl;simp only[Tryz.ntmps123,List.size_toArray,List.length_cons,List.length_nil,Nat.reduceAdd,Nat.reduceSub,Array.replicate_succ,Array.replicate_zero,List.push_toArray,List.append_toArray,List.nil_append,List.cons_append];have hw1:IntKind.i64.wrap ((n:Int)-1)=(n:Int)-1:=by rw[IntKind.wrap_i64];omega
 gi_wp2
 gi_loopw [3] (fun v wr=>∃k:Nat,k≤n∧v = .int .i64 ((n:Int)-1-(k:Int))∧J k wr) (fun v _=>(intOf v+1).toNat)
 case atStart=>exact⟨0,Nat.zero_le _,by first|rfl|(congr 1;omega)|simp,h0⟩
 case round=>
  obtain⟨k,hk,rfl,hJ⟩:=hrel;by_cases hkn:k<n
  · obtain⟨m,hm⟩:∃m,m=n-1-k:=⟨_,rfl⟩
    (have hmi:(n:Int)-1-(k:Int)=(m:Int):=by omega);have hB:=HT.out k wr hJ;have hbx:=hB.box;have hrow:=hB.row;rw[HN.out]at hbx hrow;obtain⟨x,hx⟩:∃x,l[m]?=some x:=⟨_,List.getElem?_eq_getElem (by have:=HN.out;omega)⟩;obtain⟨b,off,rfl,hb,hcell⟩:=hrow.at (by omega);obtain⟨c0,c1⟩:=hcell m x hx;obtain⟨fn,tmps,assign,body,hyy,hRr⟩:=HY.out k wr hkn hJ;rw[←hm,List.getD_eq_getElem?_getD,hx,Option.getD_some]at hyy;simp only[plV]at hyy;rw[hmi];(have hm0:(m:Int)<(n:Int):=by omega);(have hw2:IntKind.i64.wrap ((m:Int)-1)=(m:Int)-1:=by rw[IntKind.wrap_i64];omega);(have HM:Hid (m+k+1=n):=by show m+k+1=n;omega);have HKN:Hid (k<n):=hkn;clear hB hrow hmi hm hx hcell
    gi_wp2
    refine hRr.mono ?_;rintro e W3 (⟨rfl,hJ3⟩|⟨rfl,hX3⟩)
    · gi_wp2
      go_roundw
      (case rel=>exact⟨k+1,by omega,by have:=HM.out;congr 1;omega,hJ3⟩);case measure=>first|(simp[intOf];done)|(simp[intOf];omega)
    · gi_wp2
      refine bodyPost_ret (results_none rfl _ _ _) rfl ?_;exact⟨⟨_,rfl⟩,.inr ⟨k,HKN.out,hX3⟩⟩
  · have hkn2:k=n:=by omega
    (have hneg:(n:Int)-1-(k:Int)<0:=by omega);rw[hkn2]at hJ;(have hz:(n:Int)-1-(k:Int) = -1:=by omega);rw[hz];clear hneg hz hkn hk
    gi_wp2
    go_end0
    exact⟨⟨_,rfl⟩,.inl hJ⟩
end Go.Proofs.YthecngkdmnadoaaGreat
