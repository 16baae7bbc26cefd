import Derived.Test.YtobjpljdgieklaaGreatDoorJ11
import Derived.Test.YtobjpljdgieklaaGreatDoorJ5
import Derived.RangeFuncNested
import Derived.Test.YtobjpljdgieklaaGreatDoorCmpW
import Derived.Test.YtobjpljdgieklaaGreatDoorJ10
import Derived.Test.YtobjpljdgieklaaGreatDoorJ23
import Derived.Handy
set_option maxRecDepth 100000
namespace Go.Proofs.YtobjpljdgieklaaGreatDoor
section
open Go.RowKit Nums Fm
def zSk(x:Pr):Value := .agg #[.string x.1,.int .i64 x.2]
def Ext(A A':Nat→Prop)(w:World):Prop:=(∀k,A k→A' k)∧∀k,A' k→A k∨w.heap.size≤k
theorem Ext.refl(A:Nat→Prop)(w:World):Ext A A w:=⟨fun _ h=>h,fun _ h => .inl h⟩
theorem Ext.trans{A A' A'':Nat→Prop}{w w':World}(h:Ext A A' w)(h':Ext A' A'' w')(hs:w.heap.size≤w'.heap.size):Ext A A'' w:=
 ⟨fun k hk=>h'.1 k (h.1 k hk),fun k hk=>(h'.2 k hk).elim (h.2 k) (fun g => .inr (Nat.le_trans hs g))⟩
abbrev CI:=(Nat→Prop)→List Pr→World→Prop
def zGa(B:Nat)(I:CI):Prop:=∀A pre W W',I A pre W→Upd (fun k=>¬A k∧B≤k) W W'→I A pre W'
def Lies(A:Nat→Prop)(W:World):Prop:=∀k,A k→k<W.heap.size
def YC(yv:Value)(x:Pr)(W:World)(R:Ending→World→Prop):Prop:=
 ∃l,yv = .func (.yield l) #[] #[]∧∀m,YieldAt Fence.wide m Tryz.prog l #[zSk x] W R
theorem YC.mono{yv:Value}{x:Pr}{W:World}{R R':Ending→World→Prop}(h:YC yv x W R)(hr:∀e w,R e w→R' e w):YC yv x W R':=by
 obtain⟨l,h1,h2⟩:=h;refine⟨l,h1,fun m=>?_⟩;obtain⟨fn,tmps,asg,bd,hy,hR⟩:=h2 m;exact⟨fn,tmps,asg,bd,hy,hR.mono hr⟩
def zYa(I X:CI)(A:Nat→Prop)(pre:List Pr)(x:Pr)(W:World)(e:Ending)(W':World):Prop:=
 (e = .returned (.bool true)∧∃A',Ext A A' W∧Lies A' W'∧Upd A W W'∧I A' (pre++[x]) W')∨(e = .returned (.bool false)∧∃A',Ext A A' W∧Lies A' W'∧Upd A W W'∧X A' (pre++[x]) W')
def zX9(T:List Pr)(yv:Value)(I X:CI):Prop:=∀A pre x W,pre++[x]<+:T→I A pre W→Lies A W→YC yv x W (zYa I X A pre x W)
def SeqIs(S:(Nat→Prop)→World→Prop)(gf:Nat)(lb:Array Value)(L:List Pr):Prop:=
 ∀(yv:Value) (I X:CI) A W,(∃fn cb,yv = .func fn #[] cb)→S A W→zGa W.heap.size I→zGa W.heap.size X→zX9 L yv I X→I A [] W→Lies A W→Calls Tryz.prog gf (#[yv]++lb) W fun e W'=>(∃v,e = .returned v) ∧
  ((∃A',Ext A A' W∧Lies A' W'∧Upd A W W'∧I A' L W')∨∃q A',q<+:L∧Ext A A' W∧Lies A' W'∧Upd A W W'∧X A' q W')
theorem Upd.put{W:World}(l:Nat)(o:Obj):Upd (fun k=>k=l) W (W.putObj l o):=
 ⟨rfl,rfl,rfl,by simp,fun k _ hk=>World.putObj_heap_other hk⟩
def roundQ(I:CI)(X:Code→CI)(A:Nat→Prop)(pre:List Pr)(x:Pr)(W:World):Exit→Act→World→Prop
 |.normal,_,W'=>∃A',Ext A A' W∧Lies A' W'∧Upd A W W'∧I A' (pre++[x]) W'
 |.ret,_,W'=>∃A',Ext A A' W∧Lies A' W'∧Upd A W W'∧X .ret A' (pre++[x]) W'
 |.exit i,_,W'=>∃A',Ext A A' W∧Lies A' W'∧Upd A W W'∧X (.exit i) A' (pre++[x]) W'
 |.goto t,_,W'=>∃A',Ext A A' W∧Lies A' W'∧Upd A W W'∧X (.goto t) A' (pre++[x]) W'
 |_,_,_=>False
set_option maxHeartbeats 1000000 in
theorem zTu{g:Operand}{ps:Array Tmp}{assign body:Code}{Q:Exit→Act→World→Prop}{a:Act}{w:World}{gf:Nat}{lb:Array Value}{S:(Nat→Prop)→World→Prop}{L:List Pr}
 (hg:a.eval g = .func (.func gf) #[] lb) (eg:∀args w,(callFunc gf args).run Tryz.prog w = .ok (.enter gf args) w) (hseq:SeqIs S gf lb L) (hps:ps.size=1)
 (I:CI) (X:Code→CI) (A:Nat→Prop) (hA:Lies A w) (hS:∀W,Below w.heap.size w W→S (fun k=>A k∨k=w.heap.size+1∨k=w.heap.size) W) (hI:zGa w.heap.size I)
 (hX:∀c,zGa w.heap.size (X c)) (h0:I A [] w)
 (hround:∀n l A pre x W,pre++[x]<+:L→I A pre W→Lies A W→¬A (w.heap.size+1)→w.heap.size+1<W.heap.size→assign.wpIn (Fence.wide.inRound l) n Tryz.prog (Exit.then (fun a1 W1=>Upd (fun _=>False) W W1∧∀W2,Upd (fun k=>k=w.heap.size+1) W1 W2→body.wpIn (Fence.wide.inRound l) n Tryz.prog (roundQ I X A pre x W2) a1 W2) (fun _ _ _=>False)) { tmps:=(ps.zip #[zSk x]).foldl (fun t (p,v)=>t.setIfInBounds p v) a.tmps,defers:=[] } W)
 (hdone:∀A' W,Lies A' W→I A' L W→W.heap[w.heap.size]?=some (.deferred (some []))→Q .normal { a with defers:={ target := .collected w.heap.size,args:=#[] }::a.defers } W)
 (hstop:∀c A' q W,q<+:L→Lies A' W→X c A' q W→W.heap[w.heap.size]?=some (.deferred (some []))→c.wp Tryz.prog Q { a with defers:={ target := .collected w.heap.size,args:=#[] }::a.defers } W):
 (Code.rangeFunc g ps assign body).wp Tryz.prog Q a w:=by
 refine(wpIn_wide (n:=0)).1 (wpIn_rangeFunc ?_);intro fn hfn;rw[Fence.wide_round];obtain⟨rec,hrec⟩:∃rec:LoopState→Option Code→Loop,rec=fun st pe=>{ state:=st,pending:=pe,fn,tmps:=a.tmps,params:=ps,assign,body,defers:=w.heap.size }:=⟨_,rfl⟩
 obtain⟨W1,hW1⟩:∃W1,(w.alloc (.deferred (some []))).alloc (.loop (rec .ready none))=W1:=⟨_,rfl⟩;have hL1:W1.heap[w.heap.size+1]?=some (.loop (rec .ready none)):=by
  rw[←hW1];have:=World.alloc_heap_new (w.alloc (.deferred (some []))) (.loop (rec .ready none));rwa [World.size_alloc]at this
 have hK1:W1.heap[w.heap.size]?=some (.deferred (some [])):=by
  rw[←hW1];exact(Below.heap_alloc _ _ _ (by simp)).trans (World.alloc_heap_new w _)
 have hb1:Below w.heap.size w W1:=by rw[←hW1];exact((Below.refl _ w).alloc (Nat.le_refl _) _).alloc (by simp) _
 have hs1:w.heap.size+1<W1.heap.size:=(Array.getElem?_eq_some_iff.1 hL1).1
 let IA:CI:=fun A2 pre W=>∃A,(∀k,A2 k↔A k∨k=w.heap.size+1∨k=w.heap.size)∧¬A (w.heap.size+1)∧¬A w.heap.size∧Lies A W∧W.heap[w.heap.size+1]?=some (.loop (rec .ready none))∧W.heap[w.heap.size]?=some (.deferred (some []))∧I A pre W
 let IX:CI:=fun A2 pre W=>∃A c,(∀k,A2 k↔A k∨k=w.heap.size+1∨k=w.heap.size)∧¬A (w.heap.size+1)∧¬A w.heap.size∧Lies A W∧W.heap[w.heap.size+1]?=some (.loop (rec .done (some c)))∧W.heap[w.heap.size]?=some (.deferred (some []))∧X c A pre W
 refine⟨w.heap.size+1,[{ target := .collected w.heap.size,args:=#[] }],W1,{ target := .fn (.func gf) lb,args:=#[.func (.yield (w.heap.size+1)) #[] #[]] },W1,gf,
  #[.func (.yield (w.heap.size+1)) #[] #[]]++lb,W1,?_,?_,fun _ _=>trivial,?_,fun h=>by simp[Fence.wide]at h,?_⟩
 · rw[←hW1,hrec];exact run_enterLoop_outer _ _ _ _ _
 · simp only[resolve,hg]
   simp[go_sem]
 · simp[invoke,go_sem,eg]
 · refine callsIn_wide.2 ((hseq (.func (.yield (w.heap.size+1)) #[] #[]) IA IX (fun k=>A k∨k=w.heap.size+1∨k=w.heap.size) W1 ⟨_,_,rfl⟩ (hS W1 hb1) ?_ ?_ ?_ ?_ ?_).mono ?_)
   · rintro A2 pre W W' ⟨B,hiff,n1,n2,hl,hr,hd,hi⟩ hu
     refine⟨B,hiff,n1,n2,fun k hk=>Nat.lt_of_lt_of_le (hl k hk) hu.size,?_,?_,hI _ _ _ _ hi (hu.mono fun k ⟨h1,h2⟩=>⟨fun h=>h1 ((hiff k).2 (.inl h)),by omega⟩)⟩
     · exact(hu.block _ (Array.getElem?_eq_some_iff.1 hr).1 (fun h=>h.1 ((hiff _).2 (.inr (.inl rfl))))).trans hr
     · exact(hu.block _ (Array.getElem?_eq_some_iff.1 hd).1 (fun h=>h.1 ((hiff _).2 (.inr (.inr rfl))))).trans hd
   · rintro A2 pre W W' ⟨B,c,hiff,n1,n2,hl,hr,hd,hi⟩ hu
     refine⟨B,c,hiff,n1,n2,fun k hk=>Nat.lt_of_lt_of_le (hl k hk) hu.size,?_,?_,hX c _ _ _ _ hi (hu.mono fun k ⟨h1,h2⟩=>⟨fun h=>h1 ((hiff k).2 (.inl h)),by omega⟩)⟩
     · exact(hu.block _ (Array.getElem?_eq_some_iff.1 hr).1 (fun h=>h.1 ((hiff _).2 (.inr (.inl rfl))))).trans hr
     · exact(hu.block _ (Array.getElem?_eq_some_iff.1 hd).1 (fun h=>h.1 ((hiff _).2 (.inr (.inr rfl))))).trans hd
   · rintro A2 pre x W hpx ⟨B,hiff,n1,n2,hl,hr,hd,hi⟩ hlies
     refine⟨w.heap.size+1,rfl,fun m=>?_⟩;have hlt:w.heap.size+1<W.heap.size:=(Array.getElem?_eq_some_iff.1 hr).1;have hy:=run_yield (P:=Tryz.prog) (args:=#[zSk x]) hr (by rw[hrec];exact hps.symm);rw[hrec]at hy;refine⟨fn,_,assign,body,hy,roundIn_of_wpIn hfn (wpIn_mono (hround m (w.heap.size+1) B pre x W hpx hi hl n1 hlt) ?_)⟩;clear hy;intro e0 a0 Wa hp0;cases e0 with
     |exit _=>exact hp0.elim
     |goto _=>exact hp0.elim
     |ret=>exact hp0.elim
     |panic _=>exact hp0.elim
     |outgrown=>exact hp0.elim
     |normal=>
     obtain⟨hu0,hbody⟩:=hp0;have hra:Wa.heap[w.heap.size+1]?=some (.loop (rec .ready none)):=(hu0.block _ hlt id).trans hr;have hda:Wa.heap[w.heap.size]?=some (.deferred (some [])):=(hu0.block _ (by omega) id).trans hd;have hlta:w.heap.size+1<Wa.heap.size:=(Array.getElem?_eq_some_iff.1 hra).1;refine⟨_,run_beginRound hra (by rw[hrec]),?_⟩;have hu1':Upd (fun k=>k=w.heap.size+1) Wa (Wa.putObj (w.heap.size+1) (.loop { rec .ready none with state := .busy })):=Upd.put _ _;have hl2:(Wa.putObj (w.heap.size+1) (.loop { rec .ready none with state := .busy })).heap[w.heap.size+1]?=some (.loop { rec .ready none with state := .busy }):=World.putObj_heap_same hlta;have hk2:(Wa.putObj (w.heap.size+1) (.loop { rec .ready none with state := .busy })).heap[w.heap.size]?=some (.deferred (some [])):=(World.putObj_heap_other (by omega)).trans hda;have hbody2:=hbody _ hu1';clear hbody;generalize (Wa.putObj (w.heap.size+1) (.loop { rec .ready none with state := .busy }))=Wb at hu1' hl2 hk2 hbody2;have hu1:Upd (fun k=>k=w.heap.size+1) W Wb:=(hu0.mono fun k h=>h.elim).trans hu1' (fun _ _ h=>h);have hszb:w.heap.size+1<Wb.heap.size:=(Array.getElem?_eq_some_iff.1 hl2).1;refine wpIn_mono hbody2 ?_
     have fin:∀(jump:Option Code) (W3:World),Upd B Wb W3 →
      (Instr.endRound (w.heap.size+1) jump).run Tryz.prog W3 = .ok (.bool jump.isNone) (W3.putObj (w.heap.size+1) (.loop (rec (if jump.isNone then .ready else .done) jump))) ∧
      (W3.putObj (w.heap.size+1) (.loop (rec (if jump.isNone then .ready else .done) jump))).heap[w.heap.size+1]?=some (.loop (rec (if jump.isNone then .ready else .done) jump)) ∧
      (W3.putObj (w.heap.size+1) (.loop (rec (if jump.isNone then .ready else .done) jump))).heap[w.heap.size]?=some (.deferred (some [])):=fun jump W3 hu3=>by
      have hl3:=(hu3.block _ hszb n1).trans hl2;have hd3:=(hu3.block _ (by omega) n2).trans hk2;have:=run_endRound (P:=Tryz.prog) jump hl3;rw[hrec]at this ⊢;exact⟨this,World.putObj_heap_same (Array.getElem?_eq_some_iff.1 hl3).1,(World.putObj_heap_other (by omega)).trans hd3⟩
     have out:∀(Z:CI) (B':Nat→Prop) (W3:World) (o:Obj),zGa w.heap.size Z→Ext B B' Wb→Lies B' W3→Upd B Wb W3→Z B' (pre++[x]) W3 →
      Ext A2 (fun k=>B' k∨k=w.heap.size+1∨k=w.heap.size) W∧Lies (fun k=>B' k∨k=w.heap.size+1∨k=w.heap.size) (W3.putObj (w.heap.size+1) o)∧Upd A2 W (W3.putObj (w.heap.size+1) o)∧¬B' (w.heap.size+1)∧¬B' w.heap.size∧Lies B' (W3.putObj (w.heap.size+1) o)∧Z B' (pre++[x]) (W3.putObj (w.heap.size+1) o):=fun Z B' W3 o hZ he hl3 hu3 hi3=>by
      (have m1:¬B' (w.heap.size+1):=fun h=>(he.2 _ h).elim n1 (fun g=>by omega));(have m2:¬B' w.heap.size:=fun h=>(he.2 _ h).elim n2 (fun g=>by omega));have hu4:Upd (fun k=>k=w.heap.size+1) W3 (W3.putObj (w.heap.size+1) o):=Upd.put _ _;refine⟨⟨fun k hk=>?_,fun k hk=>?_⟩,fun k hk=>?_,?_,m1,m2,fun k hk=>by rw[World.putObj_size];exact hl3 k hk,hZ _ _ _ _ hi3 (hu4.mono fun k e=>by subst e;exact⟨m1,by omega⟩)⟩
      · rcases(hiff k).1 hk with h|h
        · exact .inl (he.1 k h)
        · exact .inr h
      · rcases hk with h|h
        · rcases he.2 k h with h|h
          · exact .inl ((hiff k).2 (.inl h))
          · exact .inr (Nat.le_trans hu1.size h)
        · exact .inl ((hiff k).2 (.inr h))
      · rw[World.putObj_size]
        have:=hu3.size;rcases hk with h|h|h
        · exact hl3 k h
        · omega
        · omega
      · exact((hu1.mono (G:=A2) fun k e=>(hiff k).2 (.inr (.inl e))).trans (hu3.mono (G:=A2) fun k h=>(hiff k).2 (.inl h)) (fun _ _ h=>h)).trans (hu4.mono (G:=A2) fun k e=>(hiff k).2 (.inr (.inl e))) (fun _ _ h=>h)
     rintro e a3 W3 hp;cases e with
     |normal=>
      obtain⟨B',he,hl3,hu3,hi3⟩:=hp;obtain⟨hr',f1,f2⟩:=fin none W3 hu3;obtain⟨g1,g2,g3,m1,m2,g4,g5⟩:=out I B' W3 _ hI he hl3 hu3 hi3;exact⟨_,_,hr',.inl ⟨rfl,_,g1,g2,g3,B',fun k=>Iff.rfl,m1,m2,g4,f1,f2,g5⟩⟩
     |ret=>
      obtain⟨B',he,hl3,hu3,hi3⟩:=hp;obtain⟨hr',f1,f2⟩:=fin (some .ret) W3 hu3;obtain⟨g1,g2,g3,m1,m2,g4,g5⟩:=out (X .ret) B' W3 _ (hX _) he hl3 hu3 hi3;exact⟨_,_,hr',.inr ⟨rfl,_,g1,g2,g3,B',.ret,fun k=>Iff.rfl,m1,m2,g4,f1,f2,g5⟩⟩
     |exit id=>
      obtain⟨B',he,hl3,hu3,hi3⟩:=hp;obtain⟨hr',f1,f2⟩:=fin (some (.exit id)) W3 hu3;obtain⟨g1,g2,g3,m1,m2,g4,g5⟩:=out (X (.exit id)) B' W3 _ (hX _) he hl3 hu3 hi3;exact⟨_,_,hr',.inr ⟨rfl,_,g1,g2,g3,B',.exit id,fun k=>Iff.rfl,m1,m2,g4,f1,f2,g5⟩⟩
     |goto t=>
      obtain⟨B',he,hl3,hu3,hi3⟩:=hp;obtain⟨hr',f1,f2⟩:=fin (some (.goto t)) W3 hu3;obtain⟨g1,g2,g3,m1,m2,g4,g5⟩:=out (X (.goto t)) B' W3 _ (hX _) he hl3 hu3 hi3;exact⟨_,_,hr',.inr ⟨rfl,_,g1,g2,g3,B',.goto t,fun k=>Iff.rfl,m1,m2,g4,f1,f2,g5⟩⟩
     |panic ch=>exact hp.elim
     |outgrown=>exact hp.elim
   · refine⟨A,fun k=>Iff.rfl,fun h=>?_,fun h=>?_,fun k hk=>Nat.lt_of_lt_of_le (hA k hk) hb1.size,hL1,hK1,hI _ _ _ _ h0 (Upd.of_below hb1)⟩
     · have:=hA _ h;omega
     · have:=hA _ h;omega
   · rintro k (h|h|h)
     · exact Nat.lt_of_lt_of_le (hA k h) hb1.size
     · omega
     · omega
   · rintro e W2 ⟨⟨v,rfl⟩,⟨A',he,hl2,hu2,B,hiff,n1,n2,hl,hr,hd,hi⟩|⟨q,A',hq,he,hl2,hu2,B,c,hiff,n1,n2,hl,hr,hd,hx⟩⟩
     · refine⟨none,_,by have:=run_endLoop (P:=Tryz.prog) hr (by rw[hrec];simp);rw[hrec]at this;exact this,?_⟩
       exact hdone B _ (fun k hk=>by rw[World.putObj_size];exact hl k hk) (hI _ _ _ _ hi ((Upd.put _ _).mono fun k e=>by subst e;exact⟨n1,by omega⟩)) ((World.putObj_heap_other (by omega)).trans hd)
     · refine⟨some c,_,by have:=run_endLoop (P:=Tryz.prog) hr (by rw[hrec];simp);rw[hrec]at this;exact this,?_⟩
       exact(wpIn_wide (n:=0)).2 (hstop c B q _ hq (fun k hk=>by rw[World.putObj_size];exact hl k hk) (hX c _ _ _ _ hx ((Upd.put _ _).mono fun k e=>by subst e;exact⟨n1,by omega⟩)) ((World.putObj_heap_other (by omega)).trans hd))
end
section
open Go.RowKit Nums Fm Pk
structure SS(ab bb:Nat)(s t:RSt)(va vb:Value)(w:World):Prop where
 a:w.heap[ab]?=some (.cells #[.bool s.final,.int .i64 s.out,va] 91)
 b:w.heap[bb]?=some (.cells #[.bool t.final,.int .i64 t.out,vb] 91)
theorem SS.facts{ab bb:Nat}{s t:RSt}{va vb:Value}{w:World}(h:SS ab bb s t va vb w):w.cell? ⟨ab,0,none⟩=some (.bool s.final)∧w.cell? ⟨ab,1,none⟩=some (.int .i64 s.out)∧w.cell? ⟨ab,2,none⟩=some va∧w.cell? ⟨bb,0,none⟩=some (.bool t.final)∧w.cell? ⟨bb,1,none⟩=some (.int .i64 t.out)∧w.cell? ⟨bb,2,none⟩=some vb:=
 ⟨by simp[World.cell?,h.a],by simp[World.cell?,h.a],by simp[World.cell?,h.a],by simp[World.cell?,h.b],by simp[World.cell?,h.b],by simp[World.cell?,h.b]⟩
theorem SS.below{ab bb:Nat}{s t:RSt}{va vb:Value}{w w':World}(h:SS ab bb s t va vb w)(hb:Below w.heap.size w w'):SS ab bb s t va vb w':=⟨(hb.block ab (Array.getElem?_eq_some_iff.1 h.a).1).trans h.a,(hb.block bb (Array.getElem?_eq_some_iff.1 h.b).1).trans h.b⟩
set_option maxHeartbeats 2000000 in
theorem zDh(E:Nat)(s t:RSt)(va vb:Value)(w:World)(ha:ArcsAt E w va s.arcs)(hb:ArcsAt E w vb t.arcs)(hE:E≤w.heap.size)(hs:s.arcs.length≤1114112)(ht:t.arcs.length≤1114112):
 Calls Tryz.prog 147 #[.agg #[.bool s.final,.int .i64 s.out,va],.agg #[.bool t.final,.int .i64 t.out,vb]] w fun e w'=>e = .returned (.int .i64 (cmpS s t))∧Gr w w':=by
 obtain⟨ad,cap,rfl⟩:=ha.shape;obtain⟨bd,bcap,rfl⟩:=hb.shape;have HH1:Hid (∀W,Calls Tryz.prog 172 #[.agg #[.bool s.final,.int .i64 s.out,.slice ad s.arcs.length cap]] W fun e w'=>e = .returned (.int .u64 (zBx s))∧Gr W w'):=fun W=>zQ8 s ad cap W hs
 have HH2:Hid (∀W,Calls Tryz.prog 172 #[.agg #[.bool t.final,.int .i64 t.out,.slice bd t.arcs.length bcap]] W fun e w'=>e = .returned (.int .u64 (zBx t))∧Gr W w'):=fun W=>zQ8 t bd bcap W ht
 have HCF:Hid (∀W,Gr w W→Calls Tryz.prog 174 #[.slice ad s.arcs.length cap,.slice bd t.arcs.length bcap,.func (.func 175) #[] #[]] W fun e w'=>e = .returned (.int .i64 (cmpL s.arcs t.arcs))∧Gr W w'):=fun W hW=>zIk E _ _ _ _ W (ha.below (hW.bel.mono hE)) (hb.below (hW.bel.mono hE)) (Nat.le_trans hE hW.bel.size)
 have HU:Hid (∀W,Calls Tryz.prog 171 #[.int .u64 (zBx s),.int .u64 (zBx t)] W fun e w'=>e = .returned (.int .i64 (cmpI (zBx s) (zBx t)))∧w'=W):=fun W=>cmpU_any _ _ W
 have HO:Hid (∀W,Calls Tryz.prog 173 #[.int .i64 s.out,.int .i64 t.out] W fun e w'=>e = .returned (.int .i64 (cmpI s.out t.out))∧w'=W):=fun W=>zLo _ _ W
 obtain⟨ab,hab⟩:∃ab,ab=w.heap.size:=⟨_,rfl⟩;obtain⟨bb,hbb⟩:∃bb,bb=w.heap.size+1:=⟨_,rfl⟩;generalize s.arcs.length=na at *;generalize t.arcs.length=nb at *;obtain⟨W,hW⟩:∃W,W=(w.alloc (.cells #[.bool s.final,.int .i64 s.out,.slice ad na cap] 91)).alloc (.cells #[.bool t.final,.int .i64 t.out,.slice bd nb bcap] 91):=⟨_,rfl⟩;have HG:Hid (Gr w W):=by show Gr w W;rw[hW];exact((Gr.refl w).alloc _).alloc _
 have hS:SS ab bb s t (.slice ad na cap) (.slice bd nb bcap) W:=by
  constructor
  · rw[hW,(MapKept.heap_alloc _ _).2 ab (by rw[hab];simp),hab]
    exact zAb _ _
  · have e:(w.alloc (.cells #[.bool s.final,.int .i64 s.out,.slice ad na cap] 91)).heap.size=bb:=by rw[hbb];simp
    rw[hW,←e];exact zAb _ _
 have hS0:SS ab bb s t (.slice ad na cap) (.slice bd nb bcap) W.drew:=hS.below (Below.refl _ W).drew;have HCS:Hid (cmpS s t=if cmpH s t≠0 then cmpH s t else cmpL s.arcs t.arcs):=rfl;have HCH:Hid (cmpH s t=orI [cmpI (zBx s) (zBx t),cmpI s.out t.out]):=rfl;generalize cmpL s.arcs t.arcs=CL at *;generalize zBx s=h1 at *;generalize zBx t=h2 at *;generalize cmpH s t=CH at *;generalize cmpS s t=CS at *;generalize cmpI h1 h2=c1 at *;generalize cmpI s.out t.out=c2 at *;go_enter Tryz.func147,Tryz.ntmps147;go_upto_region 1 with fail
 rw[←hbb,←hab,←hW];clear hbb hab hW hS ha hb;refine zAd (S:=SS ab bb s t (.slice ad na cap) (.slice bd nb bcap)) 13 rfl zAo hS0 (fun _=>?_);refine tq4 SS.facts 0 6 2 8 5 11 6 12 ?_;simp only[sZa,sZb,sZc];refine tq2 SS.facts 7 13 8 14 ?_;simp only[sZa,sZb,sZc];refine zAe (i:=1) (w0:=W.drew) 7 172 #[.agg #[.bool s.final,.int .i64 s.out,.slice ad na cap]] (by kernel_rfl) rfl rfl (by rfl) (by kernel_rfl) ?_;refine(HH1.out _).mono ?_;rintro e w1 ⟨rfl,hg1⟩;have hS1:=hS0.below hg1.bel;have HG1:Hid (Gr w w1):=(HG.out.drew).trans hg1;refine⟨_,rfl,hS1,fun _=>?_⟩;simp only[sZa,sZb,sZc];refine zAe (i:=3) (w0:=w1) 9 172 #[.agg #[.bool t.final,.int .i64 t.out,.slice bd nb bcap]] (by kernel_rfl) rfl rfl (by rfl) (by kernel_rfl) ?_;refine(HH2.out _).mono ?_;rintro e w2 ⟨rfl,hg2⟩;have hS2:=hS1.below hg2.bel;have HG2:Hid (Gr w w2):=HG1.out.trans hg2;refine⟨_,rfl,hS2,fun _=>?_⟩;simp only[sZa,sZb,sZc];refine zAe (i:=4) (w0:=w2) 10 171 #[.int .u64 h1,.int .u64 h2] (by kernel_rfl) rfl rfl (by rfl) (by kernel_rfl) ?_;refine(HU.out _).mono ?_;rintro e w3 ⟨rfl,hw3⟩;rw[hw3];refine⟨_,rfl,hS2,fun _=>?_⟩;simp only[sZa,sZb,sZc];refine zAe (i:=9) (w0:=w2) 15 173 #[.int .i64 s.out,.int .i64 t.out] (by kernel_rfl) rfl rfl (by rfl) (by kernel_rfl) ?_;refine(HO.out _).mono ?_;rintro e w4 ⟨rfl,hw4⟩;rw[hw4];refine⟨_,rfl,hS2,fun _=>?_⟩;simp only[sZa,sZb,sZc];obtain⟨W5,hW5⟩:∃W5,W5=w2.alloc (.cells #[.int .i64 c1,.int .i64 c2] 3):=⟨_,rfl⟩;have HG5:Hid (Gr w W5):=by show Gr w W5;rw[hW5];exact HG2.out.alloc _
 have hn5:W5.heap[w2.heap.size]?=some (.cells #[.int .i64 c1,.int .i64 c2] 3):=by rw[hW5];exact zAb _ _
 have hS5:SS ab bb s t (.slice ad na cap) (.slice bd nb bcap) W5:=by rw[hW5];exact hS2.below ((Below.refl _ _).alloc (Nat.le_refl _) _)
 have h5:=or_any w2.heap.size 2 2 [c1,c2] W5 rfl (by decide) (fun i z hi=>by
  match i,hi with
  |0,hi=>simp at hi;subst hi;simp[World.cell?,hn5]
  |1,hi=>simp at hi;subst hi;simp[World.cell?,hn5]
  |k+2,hi=>simp at hi)
 rw[←HCH.out]at h5;refine zAu (i:=10) (v := .slice (some ⟨w2.heap.size,0,none⟩) 2 2) (w':=W5) 16 (by kernel_rfl) rfl rfl (by rfl) (by rw[hW5];go_simp;first|done|exact rfl) hS5 (fun _=>?_);simp only[sZa,sZb,sZc];refine zAe (i:=11) (w0:=W5) 17 170 #[.slice (some ⟨w2.heap.size,0,none⟩) 2 2] (by kernel_rfl) rfl rfl (by rfl) (by kernel_rfl) ?_;refine h5.mono ?_;rintro e w6 ⟨rfl,hw6⟩;rw[hw6];refine⟨_,rfl,hS5,fun _=>?_⟩;simp only[sZa,sZb,sZc];refine zAu (i:=12) (v := .int .i64 CH) (w':=W5) 5 (by kernel_rfl) rfl rfl (by rfl) (by go_simp;first|done|exact rfl) hS5 (fun _=>?_);simp only[sZa,sZb,sZc];refine wpAnyH_done (by kernel_rfl) ?_ _;obtain⟨q0,q1,q2,q3,q4,q5⟩:=hS5.facts;clear hW5 hn5 hw3 hw4 hw6 hS5;by_cases hc:CH=0
 · subst hc
   have HF:Hid (CS=CL):=HCS.out;go_wp2_with (go_at_call 174;refine(HCF.out _ HG5.out).mono ?_;rintro e w8 ⟨rfl,hg8⟩);go_ret;exact⟨by rw[HF.out];rfl,HG5.out.trans hg8⟩
 · have HF:Hid (CS=CH):=by show _=_;rw[HCS.out,if_pos hc]
   have h1b:(CH==0)=false:=beq_eq_false_iff_ne.2 hc;(have h1n:(CH != 0)=true:=by simp[bne,h1b]);go_wp2;go_ret;exact⟨by rw[HF.out];rfl,HG5.out⟩
end
section
open Go.RowKit Go.Shelf Go.Lib Go.Sort Pm
theorem zNg{wr w2:World}{g o:Nat}{y z:Pr}{T:TypeId}(hb:Below (wr.alloc (.cells #[.string y.1,.int .i64 y.2] T)).heap.size (wr.alloc (.cells #[.string y.1,.int .i64 y.2] T)) w2)(hg:g<wr.heap.size)(d0:wr.cell? ⟨g,o,none⟩=some (.string z.1))(d1:wr.cell? ⟨g,o+1,none⟩=some (.int .i64 z.2))(f0:wr.frozen? ⟨g,o,none⟩=false)(f1:wr.frozen? ⟨g,o+1,none⟩=false):
 w2.cell? ⟨wr.heap.size,0,none⟩=some (.string y.1)∧w2.cell? ⟨wr.heap.size,1,none⟩=some (.int .i64 y.2)∧w2.cell? ⟨g,o,none⟩=some (.string z.1)∧w2.cell? ⟨g,o+1,none⟩=some (.int .i64 z.2)∧w2.frozen? ⟨g,o,none⟩=false∧w2.frozen? ⟨g,o+1,none⟩=false:=by
 have t:=(TwoAt.new wr y T).below (by simp) hb;have hb3:Below wr.heap.size wr w2:=((Below.refl _ wr).alloc (Nat.le_refl _) _).trans (hb.mono (by simp));have hblk:=hb3.block g hg;refine⟨t.c0,t.c1,(hb3.cell (p:=⟨g,o,none⟩) hg).trans d0,(hb3.cell (p:=⟨g,o+1,none⟩) hg).trans d1,?_,?_⟩
 · rw[←f0];simp[World.frozen?,hblk]
 · rw[←f1];simp[World.frozen?,hblk]
set_option maxHeartbeats 1000000 in
theorem zI9(B:Nat)(w:World)(v:Value)(l:List Pr)(h:POwn B w v l)(hl:l.length<549755813888)(hB:B≤w.heap.size):
 Calls Tryz.prog 95 #[v,.func (.func 97) #[] #[]] w fun e w'=>∃v',e = .returned v'∧POwn B w' v' (keep l)∧Below B w w':=by
 obtain⟨ad,cap,rfl⟩:=h.shape;have hix:=zLe w (.slice ad l.length cap) l h.row hl;have eg:∀args w,(callFunc 97 args).run Tryz.prog w = .ok (.enter 97 args) w:=enters_of Tryz.func97 (by kernel_rfl) rfl;have HO:Hid (POwn B w (.slice ad l.length cap) l):=h;clear h;go_enter Tryz.func95,Tryz.ntmps95
 go_upto_if 12 with(go_at_call 133;refine hix.mono ?_;rintro e w1 ⟨r,rfl,hb1,hres⟩)
 rcases hres with⟨rfl,hall⟩|⟨P,x,S,hpx,hP,hx0,rfl⟩
 · have HK:Hid (keep l=l):=zQ4 hall
   clear hall;go_wp2;go_ret;refine⟨_,rfl,?_,hb1.mono hB⟩;rw[HK.out];exact HO.out.below hb1
 · obtain⟨g,hg⟩:∃g,ad=some ⟨g,0,none⟩:=by
    obtain⟨_,⟨e,h0⟩|⟨g,cap,cur,e,_⟩⟩:=HO.out
    · rw[hpx]at h0;simp at h0
    · simp only[Value.slice.injEq]at e
      exact⟨g,e.1⟩
   subst hg;have HO1:Hid (POwn B w1 (.slice (some ⟨g,0,none⟩) l.length cap) l):=HO.out.below hb1;have HB1:Hid (Below B w w1):=hb1.mono hB;obtain⟨n,hn⟩:∃n,l.length=n:=⟨_,rfl⟩;(have HD:Hid (DelAt l P.length (P.length+1) n l):=by show DelAt _ _ _ _ _;rw[hpx];exact DelAt.start hP hx0 (by rw[←hpx];exact hn));have HN:Hid (l.length=n):=hn;(have hp0:¬((P.length:Int) = -1):=by omega);have hp0b:((P.length:Int) == -1)=false:=beq_eq_false_iff_ne.2 hp0;(have hPn:P.length<n:=by rw[←hn,hpx];simp);obtain⟨i0,hi0⟩:∃i0,P.length=i0:=⟨_,rfl⟩;rw[hn]at HO1 hl;rw[hi0]at HD hp0 hp0b hPn;clear hb1 hpx hP hx0 hix HO;rw[hi0,hn];clear hi0 hn;go_wp2
   go_loopg [5,6,7] n (fun g2 s5 s6 _ wr=>∃(i j:Nat) (m:List Pr),s5 = .int .i64 i∧s6 = .int .i64 j∧i<j∧j≤n∧n-j≤g2∧Hid (DelAt l i j n m)∧Hid (POwn B wr (.slice (some ⟨g,0,none⟩) n cap) m)∧Hid (Below B w wr))
   case atStart=>exact⟨i0,i0+1,l,rfl,by go_num,by omega,by omega,by omega,HD,HO1,HB1⟩
   case round=>
    clear HD HO1 HB1;obtain⟨i,j,m,rfl,rfl,hij,hjn,hg2,HD,HO,HB⟩:=hrel;by_cases hlt:j<n
    · have hltz:(j:Int)<(n:Int):=by omega
      obtain⟨y,hy⟩:∃y,l[j]?=some y:=⟨l[j]'(by have:=HN.out;omega),List.getElem?_eq_getElem _⟩;have HY:Hid (l[j]?=some y):=hy;obtain⟨cur,hBg,hh,e1,e2,e3,e4,hcell,hf⟩:=HO.out.block;have hgs:g<wr.heap.size:=(Array.getElem?_eq_some_iff.1 hh).1;obtain⟨c0,c1⟩:=hcell j y (HD.out.at hy);obtain⟨z,hz⟩:∃z,m[i]?=some z:=⟨m[i]'(by have:=HD.out.mlen;omega),List.getElem?_eq_getElem _⟩;obtain⟨d0,d1⟩:=hcell i z hz;have f0:=hf (i*2);have f1:=hf (i*2+1);(have hc:=fun W=>zFg y.1 y.2 W);clear hh e1 e2 e3 e4 hcell hf hy hz;by_cases h0:y.2=0
      · have h0b:(y.2==0)=true:=beq_iff_eq.2 h0
        have HS:Hid (DelAt l i (j+1) n m):=HD.out.skip HY.out h0;clear h0;go_wp2_with (first|(go_at_fn 97;refine(hc _).mono ?_;rintro e w2 ⟨rfl,hb2⟩)|(go_at_call 97;refine(hc _).mono ?_;rintro e w2 ⟨rfl,hb2⟩));go_roundg (n-(j+1));case measure=>omega
        case rel=>
         have hb3:=((Below.refl _ wr).alloc (Nat.le_refl _) _).trans (hb2.mono (by simp));exact⟨i,j+1,m,rfl,by go_num,by omega,by omega,Nat.le_refl _,HS,HO.out.below hb3,HB.out.trans (hb3.mono (Nat.le_trans hB HB.out.size))⟩
      · have h0b:(y.2==0)=false:=beq_eq_false_iff_ne.2 h0
        have HS:Hid (DelAt l (i+1) (j+1) n (m.set i y)):=HD.out.put HY.out h0;clear h0;go_wp2_with (first|(go_at_fn 97;refine(hc _).mono ?_;rintro e w2 ⟨rfl,hb2⟩;obtain⟨q0,q1,q2,q3,q4,q5⟩:=zNg hb2 hgs d0 d1 f0 f1)|(go_at_call 97;refine(hc _).mono ?_;rintro e w2 ⟨rfl,hb2⟩;obtain⟨q0,q1,q2,q3,q4,q5⟩:=zNg hb2 hgs d0 d1 f0 f1));have hb3:=((Below.refl _ wr).alloc (Nat.le_refl _) _).trans (hb2.mono (by simp));have HO2:Hid (POwn B (w2.setCells g (i*2) (encP y)) (.slice (some ⟨g,0,none⟩) n cap) (m.set i y)):=(HO.out.below hb3).set i y;have HB2:Hid (Below B w (w2.setCells g (i*2) (encP y))):=zC0 hBg _ _ _ _ (HB.out.trans (hb3.mono (Nat.le_trans hB HB.out.size)));go_roundg (n-(j+1));(case measure=>omega);case rel=>exact⟨i+1,j+1,m.set i y,by go_num,by go_num,by omega,by omega,Nat.le_refl _,HS,HO2.out,HB2.out⟩
    · have hltz:¬(j:Int)<(n:Int):=by omega
      obtain⟨cur,hBg,hh,e1,e2,e3,e4,hcell,hf⟩:=HO.out.block;(have hic:i<cap:=by omega);(have hin:i<n:=by omega);obtain⟨k,hk⟩:∃k,i+k=n:=⟨n-i,by omega⟩;have HF:Hid (m.take i=keep l):=HD.out.fin hlt;obtain⟨vs,hvs⟩:=zXn HO.out i k (cap-i) hk 0;have HO2:Hid (POwn B (wr.setCells g (i*2) vs) (.slice (some ⟨g,0,none⟩) i cap) (m.take i)):=HO.out.cut i (by omega) vs;have HB2:Hid (Below B w (wr.setCells g (i*2) vs)):=zC0 hBg _ _ _ _ HB.out;(have eni:n-i=k:=by omega);(have eniz:(n:Int)-(i:Int)=(k:Int):=by omega);clear hh e1 e2 e3 e4 hcell hf;go_wp2;go_ret;refine⟨_,rfl,?_,HB2.out⟩;rw[←HF.out];exact HO2.out
end
section
open Go.RowKit Nums Ed
theorem new_cell(w:World)(v:Value)(T:TypeId):(w.alloc (.cells #[v] T)).cell? ⟨w.heap.size,0,none⟩=some v:=by simp
def min3(a b c:Int):Int:=if c<(if b<a then b else a)then c else (if b<a then b else a)
theorem zKq(ts:Array TypeId)(ty:TypeId)(k:IntKind)(a b c:Int)(w:World):(Builtin.min_ ts ty #[.int k a,.int k b,.int k c]).run Tryz.prog w = .ok (.int k (min3 a b c)) w:=by
 simp[Builtin.min_,Builtin.min2,min3,Sem.run_pure]
theorem zM5{ρ:Operand→Value}{x y z:Operand}{ts:Array TypeId}{dst:Option Tmp}{ty:TypeId}{pos:String}{af:Array Edge}{g:Option (Nat×Bool)}{w:World}{k:IntKind}{a b c:Int}(hx:ρ x = .int k a)(hy:ρ y = .int k b)(hz:ρ z = .int k c):
 (execOp ρ ⟨dst,.call { callee := .builtin .min,args:=#[x,y,z],argTypes:=ts },ty,pos,af,g⟩).run Tryz.prog w = .ok (.value (.int k (min3 a b c))) w:=by
 unfold execOp;simp only[resolve,invoke,builtin,Sem.run_bind,Sem.run_pure,Result.andThen_ok,List.map_toArray,List.map_cons,List.map_nil,hx,hy,hz,zKq]
theorem zM9{P:Program}{ρ:Operand→Value}{x y:Operand}{t:TypeId}{dst:Option Tmp}{ty:TypeId}{pos:String}{af:Array Edge}{g:Option (Nat×Bool)}{w w':World}{v:Value}(h:(Builtin.append_ #[t,t] ty #[ρ x,ρ y]).run P w = .ok v w'):
 (execOp ρ ⟨dst,.call { callee := .builtin .append,args:=#[x,y],argTypes:=#[t,t] },ty,pos,af,g⟩).run P w = .ok (.value v) w':=by
 unfold execOp;simp only[resolve,invoke,builtin,Sem.run_bind,Sem.run_pure,Result.andThen_ok,List.map_toArray,List.map_cons,List.map_nil,h]
set_option maxHeartbeats 1000000 in
theorem next_any(w:World)(g off a cap capa:Nat)(cs p ys:List Int)(r:Int)(vy:Value)(E:Nat)(hB:IBlk w g cs)(hcap:ys.length<cap)(hl:off+ys.length<cs.length)
 (hA:∀j,j≤ys.length→cs[a+j]?=some (lv p (ys.take j):Int)) (hap:a+ys.length<off∨off+ys.length<a) (hy:RunesAt E w vy ys) (hE:E≤g) (hs:ys.length≤100000) (hps:p.length≤100000):
 Calls Tryz.prog 157 #[.slice (some ⟨g,off,none⟩) 0 cap,.slice (some ⟨g,a,none⟩) (ys.length+1) capa,.int .i32 r,vy] w fun e w'=>e = .returned (.slice (some ⟨g,off,none⟩) (ys.length+1) cap)∧IBlk w' g (lay cs off (dr (p++[r]) ys))∧But g w w':=by
 obtain⟨ady,capy,rfl⟩:=hy.form;obtain⟨n,hn⟩:∃n,n=ys.length:=⟨_,rfl⟩;rw[←hn]at hcap hl hs hap hA hy ⊢;have HN:Hid (n=ys.length):=hn;clear hn;have HA:Hid (∀j,j≤n→cs[a+j]?=some (lv p (ys.take j):Int)):=hA;clear hA;have hc0:w.cell? ⟨g,a,none⟩=some (.int .i64 (p.length:Int)):=by
  have:=HA.out 0 (Nat.zero_le _);rw[List.take_zero,zCu]at this;exact hB.cell this
 have HB:Hid (IBlk w g cs):=hB;have hgl:=hB.lt;clear hB;go_enter Tryz.func157,Tryz.ntmps157;go_wp2_with (at_builtin;refine zRp rfl _ _ _ rfl g off 0 cap _ _ cs ((p.length:Int)+1) rfl rfl rfl HB.out (by omega) (by omega) ?_);intro w1 hI1 hb1;have HI1:Hid (IBlk w1 g (lay cs off ((dr (p++[r]) ys).take 1))):=by
  have e:=zOv (cs:=cs) (L:=[]) (b:=off) (by simp;omega) ((p.length:Int)+1);rw[zV2]at e;simp only[List.length_nil,Nat.add_zero]at e;rw[e]at hI1;rw[zT5 _ _ (Nat.zero_le _),List.take_zero,List.take_zero,zCu,List.nil_append];exact(by simpa using hI1:IBlk w1 g (lay cs off [((p++[r]).length:Int)]))
 clear hI1 hc0;go_wp2
 go_loopw [0,21] (fun v i wr=>∃k:Nat,k≤n∧i = .int .i64 k∧v = .slice (some ⟨g,off,none⟩) (k+1) cap∧IBlk wr g (lay cs off ((dr (p++[r]) ys).take (k+1)))∧But g w wr) (fun _ i _=>n-(intOf i).toNat)
 case atStart=>exact⟨0,by omega,rfl,rfl,HI1.out,hb1⟩
 case round=>
  obtain⟨k,hk,rfl,rfl,hI,hbut⟩:=hrel;have HI:Hid (IBlk wr g (lay cs off ((dr (p++[r]) ys).take (k+1)))):=hI;clear hI;by_cases hlt:k<n
  · have hlen:Hid (((dr (p++[r]) ys).take (k+1)).length=k+1):=zT2 _ _ (by have:=HN.out;omega)
    have hcl:Hid ((lay cs off ((dr (p++[r]) ys).take (k+1))).length=cs.length):=zLc (by rw[hlen.out];omega);(have hky:k<ys.length:=by have:=HN.out;omega);obtain⟨s,hs'⟩:∃s,ys[k]?=some s:=⟨_,List.getElem?_eq_getElem hky⟩;have HS:Hid (ys[k]?=some s):=hs';clear hs';obtain⟨gy,offy,rfl,hgy,hcy⟩:=(hy.below (hbut.below hE (by omega))).at HS.out;have hA0:wr.cell? ⟨g,a+k,none⟩=some (.int .i64 (lv p (ys.take k):Int)):=HI.out.cell (by rw[zV1 (by rw[hlen.out];omega) (by rw[hlen.out];omega)];exact HA.out k (by omega));have hA1:wr.cell? ⟨g,a+(k+1),none⟩=some (.int .i64 (lv p (ys.take (k+1)):Int)):=HI.out.cell (by rw[zV1 (by rw[hlen.out];omega) (by rw[hlen.out];omega)];exact HA.out (k+1) (by omega));have hR0:wr.cell? ⟨g,off+k,none⟩=some (.int .i64 (lv (p++[r]) (ys.take k):Int)):=HI.out.cell (by rw[zV3 (by rw[hlen.out];omega) (by rw[hlen.out];omega),List.getElem?_take,if_pos (by omega),zNe _ _ (by omega)]);have b0:=dr_bd p ys k;have b1:=dr_bd p ys (k+1);have b2:=dr_bd (p++[r]) ys k;rw[List.length_append,List.length_singleton,←HN.out]at b2;rw[←HN.out]at b0 b1;have HNX:Hid _:=dr_next p ys r HS.out;generalize hd0:lv p (ys.take k)=d0 at *;generalize hd1:lv p (ys.take (k+1))=d1 at *;generalize hd2:lv (p++[r]) (ys.take k)=d2 at *;clear hd0 hd1 hd2;obtain⟨q,hq⟩:∃q,q=k+1:=⟨_,rfl⟩;rw[←hq]at hA1;(have hwq:IntKind.i64.wrap ((k:Int)+1)=(q:Int):=by rw[IntKind.wrap_i64];omega);(have hqn:(q:Int)<(n:Int)+1:=by omega);(have hq0:(0:Int)≤(q:Int):=by omega);(have hkn:(k:Int)<(k:Int)+1:=by omega);have hqt:(q:Int).toNat=q:=rfl;(have hwd1:IntKind.i64.wrap ((d1:Int)+1)=(d1:Int)+1:=by rw[IntKind.wrap_i64];omega);(have hwd2:IntKind.i64.wrap ((d2:Int)+1)=(d2:Int)+1:=by rw[IntKind.wrap_i64];omega);have HQ:Hid (q=k+1):=hq;clear hq;obtain⟨d3,hd3⟩:∃d3,d3=lv (p++[r]) (ys.take (k+1)):=⟨_,rfl⟩;rw[←hd3]at HNX;have HD3:Hid (d3=lv (p++[r]) (ys.take (k+1))):=hd3;clear hd3;have hS0:wr.drew.cell? ⟨g,a+q,none⟩=some (.int .i64 (d1:Int))∧wr.drew.cell? ⟨g,off+k,none⟩=some (.int .i64 (d2:Int)):=⟨hA1,hR0⟩;obtain⟨W4,hW4⟩:∃W4,W4=wr.drew.alloc (.cells #[.int .i64 (d3:Int)] 3):=⟨_,rfl⟩;(have hI4:IBlk W4 g (lay cs off ((dr (p++[r]) ys).take (k+1))):=by rw[hW4];exact IBlk.alloc (w:=wr.drew) HI.out _);have hS4:W4.cell? ⟨g,a+q,none⟩=some (.int .i64 (d1:Int))∧W4.cell? ⟨g,off+k,none⟩=some (.int .i64 (d2:Int)):=by
     (have hb:Below wr.drew.heap.size wr.drew W4:=by rw[hW4];exact(Below.refl _ _).alloc (Nat.le_refl _) _);have hlt':g<wr.drew.heap.size:=HI.out.lt;exact⟨(hb.cell (p:=⟨g,a+q,none⟩) hlt').trans hS0.1,(hb.cell (p:=⟨g,off+k,none⟩) hlt').trans hS0.2⟩
    have hap4:=zIq (x:=(d3:Int)) (nb:=wr.drew.heap.size) (c:=1) (n:=k+1) (cap:=cap) (off:=off) hI4 (by rw[hW4];exact new_cell wr.drew _ _) (by omega) (by rw[hcl.out];omega) 118;obtain⟨W5,hW5⟩:∃W5,W5=W4.setCell ⟨g,off+(k+1),none⟩ (.int .i64 (d3:Int)):=⟨_,rfl⟩;rw[←hW5]at hap4;have HAP:Hid ((Builtin.append_ #[118,118] 118 #[.slice (some ⟨g,off,none⟩) (k+1) cap,.slice (some ⟨wr.drew.heap.size,0,none⟩) 1 1]).run Tryz.prog W4 = .ok (.slice (some ⟨g,off,none⟩) (k+1+1) cap) W5):=hap4;have hS5:W5.cell? ⟨g,a+q,none⟩=some (.int .i64 (d1:Int))∧W5.cell? ⟨g,off+k,none⟩=some (.int .i64 (d2:Int)):=by
     rw[hW5];refine⟨?_,?_⟩
     · rw[World.cell?_setCell_other _ _ _ _ (by intro e;have h2:off+(k+1)=a+q:=congrArg Addr.off e;have:=HQ.out;omega)];exact hS4.1
     · rw[World.cell?_setCell_other _ _ _ _ (by simp)];exact hS4.2
    have HB5:Hid (But g wr W5):=by
     show But g wr W5;rw[hW5];refine But.setCell ?_ _ _;rw[hW4];exact((show But g wr wr.drew from⟨rfl,rfl,rfl,Nat.le_refl _,fun _ _ _=>rfl⟩).alloc _)
    have HI5:Hid (IBlk W5 g (lay cs off ((dr (p++[r]) ys).take (k+1+1)))):=by
     show IBlk W5 g (lay cs off ((dr (p++[r]) ys).take (k+1+1)));have e:=zOv (cs:=cs) (L:=(dr (p++[r]) ys).take (k+1)) (b:=off) (by rw[hlen.out];omega) (d3:Int);rw[hlen.out]at e;rw[zT5 (p++[r]) ys (k:=k+1) (by have:=HN.out;omega),←HD3.out,←e,hW5];exact hI4.set _ _
    have HW5:Hid (W5=W4.setCell ⟨g,off+(k+1),none⟩ (.int .i64 (d3:Int))):=hW5;clear hW5 hI4 hap4;by_cases hsr:s=r
    · subst hsr
      have HM:Hid (min3 (d0:Int) ((d1:Int)+1) ((d2:Int)+1)=(d3:Int)):=by
       have:=HNX.out;rw[if_pos rfl]at this;unfold Hid min3
       split<;>split at*<;> omega
      go_wp2;refine zAd (S:=fun W=>W.cell? ⟨g,a+q,none⟩=some (.int .i64 (d1:Int))∧W.cell? ⟨g,off+k,none⟩=some (.int .i64 (d2:Int))) 17 rfl zAo hS0 (fun _=>?_);refine tq4 id 0 35 1 36 2 37 3 38 ?_;simp only[sZa,sZb,sZc];refine tq4 id 4 39 5 40 6 41 7 42 ?_;simp only[sZa,sZb,sZc];refine tq4 id 8 43 9 44 10 45 11 46 ?_;simp only[sZa,sZb,sZc];refine tq id 12 47 ?_;simp only[sZa,sZb,sZc];refine zAu (i:=13) (v := .int .i64 (d3:Int)) (w':=wr.drew) 48 (by kernel_rfl) rfl rfl (by rfl) ((zM5 rfl rfl rfl).trans (by rw[HM.out])) hS0 (fun _=>?_);simp only[sZa,sZb,sZc];refine zAu (i:=14) (v := .slice (some ⟨wr.drew.heap.size,0,none⟩) 1 1) (w':=W4) 49 (by kernel_rfl) rfl rfl (by rfl) (by rw[hW4];go_simp;first|done|exact rfl) hS4 (fun _=>?_);simp only[sZa,sZb,sZc];refine zAu (i:=15) (v := .slice (some ⟨g,off,none⟩) (k+1+1) cap) (w':=W5) 50 (by kernel_rfl) rfl rfl (by rfl) (zM9 HAP.out) hS5 (fun _=>?_);simp only[sZa,sZb,sZc];refine zAu (i:=16) (v := .slice (some ⟨g,off,none⟩) (k+1+1) cap) (w':=W5) 0 (by kernel_rfl) rfl rfl (by rfl) (by kernel_rfl) hS5 (fun _=>?_);simp only[List.setIfInBounds_toArray,List.set_cons_zero];refine wpAnyH_done (by kernel_rfl) ?_ _;clear HAP hS0 hS4 hS5 hA0 hA1 hR0 hcy HM hW4 HW5;go_wp2
      go_roundw
      (case rel=>exact⟨k+1,by omega,by rw[HQ.out],rfl,HI5.out,hbut.trans HB5.out⟩);case measure=>simp[intOf];have:=HQ.out;omega
    · have hsb:(s != r)=true:=by simpa using hsr
      (have hwd0:IntKind.i64.wrap ((d0:Int)+1)=(d0:Int)+1:=by rw[IntKind.wrap_i64];omega);have HM:Hid (min3 ((d0:Int)+1) ((d1:Int)+1) ((d2:Int)+1)=(d3:Int)):=by
       have:=HNX.out;rw[if_neg hsr]at this;unfold Hid min3
       split<;>split at*<;> omega
      clear hsr;go_wp2;refine zAd (S:=fun W=>W.cell? ⟨g,a+q,none⟩=some (.int .i64 (d1:Int))∧W.cell? ⟨g,off+k,none⟩=some (.int .i64 (d2:Int))) 17 rfl zAo hS0 (fun _=>?_);refine tq4 id 0 35 1 36 2 37 3 38 ?_;simp only[sZa,sZb,sZc];refine tq4 id 4 39 5 40 6 41 7 42 ?_;simp only[sZa,sZb,sZc];refine tq4 id 8 43 9 44 10 45 11 46 ?_;simp only[sZa,sZb,sZc];refine tq id 12 47 ?_;simp only[sZa,sZb,sZc];refine zAu (i:=13) (v := .int .i64 (d3:Int)) (w':=wr.drew) 48 (by kernel_rfl) rfl rfl (by rfl) ((zM5 rfl rfl rfl).trans (by rw[HM.out])) hS0 (fun _=>?_);simp only[sZa,sZb,sZc];refine zAu (i:=14) (v := .slice (some ⟨wr.drew.heap.size,0,none⟩) 1 1) (w':=W4) 49 (by kernel_rfl) rfl rfl (by rfl) (by rw[hW4];go_simp;first|done|exact rfl) hS4 (fun _=>?_);simp only[sZa,sZb,sZc];refine zAu (i:=15) (v := .slice (some ⟨g,off,none⟩) (k+1+1) cap) (w':=W5) 50 (by kernel_rfl) rfl rfl (by rfl) (zM9 HAP.out) hS5 (fun _=>?_);simp only[sZa,sZb,sZc];refine zAu (i:=16) (v := .slice (some ⟨g,off,none⟩) (k+1+1) cap) (w':=W5) 0 (by kernel_rfl) rfl rfl (by rfl) (by kernel_rfl) hS5 (fun _=>?_);simp only[List.setIfInBounds_toArray,List.set_cons_zero];refine wpAnyH_done (by kernel_rfl) ?_ _;clear HAP hS0 hS4 hS5 hA0 hA1 hR0 hcy HM hW4 HW5;go_wp2
      go_roundw
      (case rel=>exact⟨k+1,by omega,by rw[HQ.out],rfl,HI5.out,hbut.trans HB5.out⟩);case measure=>simp[intOf];have:=HQ.out;omega
  · obtain rfl:k=n:=by omega
    go_wp2;go_ret;refine⟨rfl,?_,hbut⟩;have:=HI.out
    rwa [HN.out,List.take_of_length_le (by rw[zIi];omega)]at this
end
section
open Go.RowKit Nums Ed
set_option maxHeartbeats 1000000 in
theorem zQh(s:ByteArray)(w:World)(ht:Tabs w)(hm:s.size≤9223372036854775807):
 Calls Tryz.prog 177 #[.string s] w fun e w'=>∃v f,e = .returned (.tuple #[v,.bool f])∧Below w.heap.size w w' ∧
  ((f=false∧rsE s.data.toList=none)∨(f=true∧∃xs,rsE s.data.toList=some xs∧Made w.heap.size w' v xs)):=by
 by_cases hlen:4096<s.size
 · have HF:Hid (rsE s.data.toList=none):=rsE_far (by rw[zAg];exact hlen)
   go_enter Tryz.func177,Tryz.ntmps177;go_wp2;go_ret2;exact⟨_,_,rfl,Below.refl _ _,.inl ⟨rfl,HF.out⟩⟩
 · have HR:Hid (Room s.data.toList):=zE1 (by rw[zAg];omega)
   go_enter Tryz.func177,Tryz.ntmps177;go_upto_region 4 with(go_at_call 71;refine(zF9 s _ ht (by omega) HR.out).mono ?_;rintro e w1 ⟨v,hb1,⟨hn,rfl,rfl⟩|⟨xs,hsome,rfl,hmade⟩⟩)
   · have HF:Hid (rsE s.data.toList=none):=zQc hn
     clear hn;go_wp2;go_returns;exact⟨_,_,rfl,hb1,.inl ⟨rfl,HF.out⟩⟩
   · obtain⟨ad,cap,rfl⟩:=hmade.runesE.form
     by_cases hx:xs.length≤1024
     · have HF:Hid (rsE s.data.toList=some xs):=zKr hsome hx
       clear hsome;go_wp2;go_returns;exact⟨_,_,rfl,hb1,.inr ⟨by simp;omega,xs,HF.out,hmade⟩⟩
     · have HF:Hid (rsE s.data.toList=none):=zQd hsome hx
       clear hsome;go_wp2;go_returns;exact⟨_,_,rfl,hb1,.inl ⟨by simp;omega,HF.out⟩⟩
def zRv(w w':World)(a b:List UInt8)(v u:Value)(f:Bool):Prop:=
 Below w.heap.size w w'∧((f=false∧dsE a b=none)∨(f=true∧∃xs ys,rsE a=some xs∧rsE b=some ys∧Made w.heap.size w' v xs∧Made w.heap.size w' u ys))
theorem Made.mono{B B':Nat}{w:World}{v:Value}{xs:List Int}(h:Made B w v xs)(hB:B'≤B):Made B' w v xs:=by
 obtain⟨hl,hn|⟨g,cap,cur,rfl,h1,h2⟩⟩:=h
 · exact⟨hl,.inl hn⟩
 · exact⟨hl,.inr ⟨g,cap,cur,rfl,by omega,h2⟩⟩
set_option maxHeartbeats 1000000 in
theorem both_any(a b:ByteArray)(w:World)(ht:Tabs w)(ha:a.size≤9223372036854775807)(hb:b.size≤9223372036854775807):
 Calls Tryz.prog 154 #[.string a,.string b] w fun e w'=>∃v u f,e = .returned (.tuple #[v,u,.bool f])∧zRv w w' a.data.toList b.data.toList v u f:=by
 go_enter Tryz.func154,Tryz.ntmps154;go_upto_region 2 with(go_at_call 177;refine(zQh a _ ht ha).mono ?_;rintro e w1 ⟨v,f,rfl,hb1,hcase⟩)
 have ht1:Tabs w1:=ht.below hb1;go_upto_region 3 with(go_at_call 177;refine(zQh b _ ht1 hb).mono ?_;rintro e w2 ⟨u,f2,rfl,hb2,hcase2⟩)
 have hb12:Below w.heap.size w w2:=hb1.trans (hb2.mono hb1.size);have HF:Hid (zRv w w2 a.data.toList b.data.toList v u (f&&f2)):=by
  refine⟨hb12,?_⟩;rcases hcase with⟨rfl,h1⟩|⟨rfl,xs,h1,m1⟩
  · exact .inl ⟨rfl,dsE_left h1⟩
  · rcases hcase2 with⟨rfl,h2⟩|⟨rfl,ys,h2,m2⟩
    · exact .inl ⟨rfl,zW3 h2⟩
    · exact .inr ⟨rfl,xs,ys,h1,h2,m1.below hb2,m2.mono hb1.size⟩
 clear hcase hcase2 hb12;cases f
 all_goals
  go_wp2;go_returns;exact⟨_,_,_,rfl,HF.out⟩
end
