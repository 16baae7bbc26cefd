import Derived.RangeFuncNested
import Derived.Test.YtkdhdehobdfakaaGreatDoorJ22
import Derived.RangeFuncCalls
import Derived.OrdersIn
import Derived.Test.YtkdhdehobdfakaaGreatDoorJ11
import Derived.LoopIn
import Derived.TacticsInMore
import Derived.OwnWalkIn
import Derived.Laws.StructEq
import Derived.Below
set_option maxRecDepth 100000
set_option maxHeartbeats 8000000
namespace Go.Proofs.YtkdhdehobdfakaaGreatDoor
section
open Go.RowKit Nums Fm
def zS3(x:Pr):Value := .agg #[.string x.1,.int .i64 x.2]
def Ext(A A':Nat→Prop)(w:World):Prop:=(∀k,A k→A' k)∧∀k,A' k→A k∨w.heap.size≤k
theorem Ext.refl(A:Nat→Prop)(w:World):Ext A A w:=⟨fun _ h=>h,fun _ h => .inl h⟩
theorem Ext.trans{A A' A'':Nat→Prop}{w w':World}(h:Ext A A' w)(h':Ext A' A'' w')(hs:w.heap.size≤w'.heap.size):Ext A A'' w:=
 ⟨fun k hk=>h'.1 k (h.1 k hk),fun k hk=>(h'.2 k hk).elim (h.2 k) (fun g => .inr (Nat.le_trans hs g))⟩
abbrev CI:=(Nat→Prop)→List Pr→World→Prop
def zGf(B:Nat)(I:CI):Prop:=∀A pre W W',I A pre W→Upd (fun k=>¬A k∧B≤k) W W'→I A pre W'
def Lies(A:Nat→Prop)(W:World):Prop:=∀k,A k→k<W.heap.size
def YC(yv:Value)(x:Pr)(W:World)(R:Ending→World→Prop):Prop:=
 ∃l,yv = .func (.yield l) #[] #[]∧∀m,YieldAt Fence.wide m Tryz.prog l #[zS3 x] W R
theorem YC.mono{yv:Value}{x:Pr}{W:World}{R R':Ending→World→Prop}(h:YC yv x W R)(hr:∀e w,R e w→R' e w):YC yv x W R':=by
 obtain⟨l,h1,h2⟩:=h;refine⟨l,h1,fun m=>?_⟩;obtain⟨fn,tmps,asg,bd,hy,hR⟩:=h2 m;exact⟨fn,tmps,asg,bd,hy,hR.mono hr⟩
def zYr(I X:CI)(A:Nat→Prop)(pre:List Pr)(x:Pr)(W:World)(e:Ending)(W':World):Prop:=
 (e = .returned (.bool true)∧∃A',Ext A A' W∧Lies A' W'∧Upd A W W'∧I A' (pre++[x]) W')∨(e = .returned (.bool false)∧∃A',Ext A A' W∧Lies A' W'∧Upd A W W'∧X A' (pre++[x]) W')
def zYq(T:List Pr)(yv:Value)(I X:CI):Prop:=∀A pre x W,pre++[x]<+:T→I A pre W→Lies A W→YC yv x W (zYr I X A pre x W)
def SeqIs(S:(Nat→Prop)→World→Prop)(gf:Nat)(lb:Array Value)(L:List Pr):Prop:=
 ∀(yv:Value) (I X:CI) A W,(∃fn cb,yv = .func fn #[] cb)→S A W→zGf W.heap.size I→zGf W.heap.size X→zYq L yv I X→I A [] W→Lies A W→Calls Tryz.prog gf (#[yv]++lb) W fun e W'=>(∃v,e = .returned v) ∧
  ((∃A',Ext A A' W∧Lies A' W'∧Upd A W W'∧I A' L W')∨∃q A',q<+:L∧Ext A A' W∧Lies A' W'∧Upd A W W'∧X A' q W')
theorem Upd.put{W:World}(l:Nat)(o:Obj):Upd (fun k=>k=l) W (W.putObj l o):=
 ⟨rfl,rfl,rfl,by simp,fun k _ hk=>World.putObj_heap_other hk⟩
def roundQ(I:CI)(X:Code→CI)(A:Nat→Prop)(pre:List Pr)(x:Pr)(W:World):Exit→Act→World→Prop
 |.normal,_,W'=>∃A',Ext A A' W∧Lies A' W'∧Upd A W W'∧I A' (pre++[x]) W'
 |.ret,_,W'=>∃A',Ext A A' W∧Lies A' W'∧Upd A W W'∧X .ret A' (pre++[x]) W'
 |.exit i,_,W'=>∃A',Ext A A' W∧Lies A' W'∧Upd A W W'∧X (.exit i) A' (pre++[x]) W'
 |.goto t,_,W'=>∃A',Ext A A' W∧Lies A' W'∧Upd A W W'∧X (.goto t) A' (pre++[x]) W'
 |_,_,_=>False
theorem zUb{g:Operand}{ps:Array Tmp}{assign body:Code}{Q:Exit→Act→World→Prop}{a:Act}{w:World}{gf:Nat}{lb:Array Value}{S:(Nat→Prop)→World→Prop}{L:List Pr}
 (hg:a.eval g = .func (.func gf) #[] lb) (eg:∀args w,(callFunc gf args).run Tryz.prog w = .ok (.enter gf args) w) (hseq:SeqIs S gf lb L) (hps:ps.size=1)
 (I:CI) (X:Code→CI) (A:Nat→Prop) (hA:Lies A w) (hS:∀W,Below w.heap.size w W→S (fun k=>A k∨k=w.heap.size+1∨k=w.heap.size) W) (hI:zGf w.heap.size I)
 (hX:∀c,zGf w.heap.size (X c)) (h0:I A [] w)
 (hround:∀n l A pre x W,pre++[x]<+:L→I A pre W→Lies A W→¬A (w.heap.size+1)→w.heap.size+1<W.heap.size→assign.wpIn (Fence.wide.inRound l) n Tryz.prog (Exit.then (fun a1 W1=>Upd (fun _=>False) W W1∧∀W2,Upd (fun k=>k=w.heap.size+1) W1 W2→body.wpIn (Fence.wide.inRound l) n Tryz.prog (roundQ I X A pre x W2) a1 W2) (fun _ _ _=>False)) { tmps:=(ps.zip #[zS3 x]).foldl (fun t (p,v)=>t.setIfInBounds p v) a.tmps,defers:=[] } W)
 (hdone:∀A' W,Lies A' W→I A' L W→W.heap[w.heap.size]?=some (.deferred (some []))→Q .normal { a with defers:={ target := .collected w.heap.size,args:=#[] }::a.defers } W)
 (hstop:∀c A' q W,q<+:L→Lies A' W→X c A' q W→W.heap[w.heap.size]?=some (.deferred (some []))→c.wp Tryz.prog Q { a with defers:={ target := .collected w.heap.size,args:=#[] }::a.defers } W):
 (Code.rangeFunc g ps assign body).wp Tryz.prog Q a w:=by
 refine(wpIn_wide (n:=0)).1 (wpIn_rangeFunc ?_);intro fn hfn;rw[Fence.wide_round];obtain⟨rec,hrec⟩:∃rec:LoopState→Option Code→Loop,rec=fun st pe=>{ state:=st,pending:=pe,fn,tmps:=a.tmps,params:=ps,assign,body,defers:=w.heap.size }:=⟨_,rfl⟩
 obtain⟨W1,hW1⟩:∃W1,(w.alloc (.deferred (some []))).alloc (.loop (rec .ready none))=W1:=⟨_,rfl⟩;have hL1:W1.heap[w.heap.size+1]?=some (.loop (rec .ready none)):=by
  rw[←hW1];have:=World.alloc_heap_new (w.alloc (.deferred (some []))) (.loop (rec .ready none));rwa [World.size_alloc]at this
 have hK1:W1.heap[w.heap.size]?=some (.deferred (some [])):=by
  rw[←hW1];exact(Below.heap_alloc _ _ _ (by simp)).trans (World.alloc_heap_new w _)
 have hb1:Below w.heap.size w W1:=by rw[←hW1];exact((Below.refl _ w).alloc (Nat.le_refl _) _).alloc (by simp) _
 have hs1:w.heap.size+1<W1.heap.size:=(Array.getElem?_eq_some_iff.1 hL1).1
 let IA:CI:=fun A2 pre W=>∃A,(∀k,A2 k↔A k∨k=w.heap.size+1∨k=w.heap.size)∧¬A (w.heap.size+1)∧¬A w.heap.size∧Lies A W∧W.heap[w.heap.size+1]?=some (.loop (rec .ready none))∧W.heap[w.heap.size]?=some (.deferred (some []))∧I A pre W
 let IX:CI:=fun A2 pre W=>∃A c,(∀k,A2 k↔A k∨k=w.heap.size+1∨k=w.heap.size)∧¬A (w.heap.size+1)∧¬A w.heap.size∧Lies A W∧W.heap[w.heap.size+1]?=some (.loop (rec .done (some c)))∧W.heap[w.heap.size]?=some (.deferred (some []))∧X c A pre W
 refine⟨w.heap.size+1,[{ target := .collected w.heap.size,args:=#[] }],W1,{ target := .fn (.func gf) lb,args:=#[.func (.yield (w.heap.size+1)) #[] #[]] },W1,gf,
  #[.func (.yield (w.heap.size+1)) #[] #[]]++lb,W1,?_,?_,fun _ _=>trivial,?_,fun h=>by simp[Fence.wide]at h,?_⟩
 · rw[←hW1,hrec];exact run_enterLoop_outer _ _ _ _ _
 · simp only[resolve,hg]
   simp[go_sem]
 · simp[invoke,go_sem,eg]
 · refine callsIn_wide.2 ((hseq (.func (.yield (w.heap.size+1)) #[] #[]) IA IX (fun k=>A k∨k=w.heap.size+1∨k=w.heap.size) W1 ⟨_,_,rfl⟩ (hS W1 hb1) ?_ ?_ ?_ ?_ ?_).mono ?_)
   · rintro A2 pre W W' ⟨B,hiff,n1,n2,hl,hr,hd,hi⟩ hu
     refine⟨B,hiff,n1,n2,fun k hk=>Nat.lt_of_lt_of_le (hl k hk) hu.size,?_,?_,hI _ _ _ _ hi (hu.mono fun k ⟨h1,h2⟩=>⟨fun h=>h1 ((hiff k).2 (.inl h)),by omega⟩)⟩
     · exact(hu.block _ (Array.getElem?_eq_some_iff.1 hr).1 (fun h=>h.1 ((hiff _).2 (.inr (.inl rfl))))).trans hr
     · exact(hu.block _ (Array.getElem?_eq_some_iff.1 hd).1 (fun h=>h.1 ((hiff _).2 (.inr (.inr rfl))))).trans hd
   · rintro A2 pre W W' ⟨B,c,hiff,n1,n2,hl,hr,hd,hi⟩ hu
     refine⟨B,c,hiff,n1,n2,fun k hk=>Nat.lt_of_lt_of_le (hl k hk) hu.size,?_,?_,hX c _ _ _ _ hi (hu.mono fun k ⟨h1,h2⟩=>⟨fun h=>h1 ((hiff k).2 (.inl h)),by omega⟩)⟩
     · exact(hu.block _ (Array.getElem?_eq_some_iff.1 hr).1 (fun h=>h.1 ((hiff _).2 (.inr (.inl rfl))))).trans hr
     · exact(hu.block _ (Array.getElem?_eq_some_iff.1 hd).1 (fun h=>h.1 ((hiff _).2 (.inr (.inr rfl))))).trans hd
   · rintro A2 pre x W hpx ⟨B,hiff,n1,n2,hl,hr,hd,hi⟩ hlies
     refine⟨w.heap.size+1,rfl,fun m=>?_⟩;have hlt:w.heap.size+1<W.heap.size:=(Array.getElem?_eq_some_iff.1 hr).1;have hy:=run_yield (P:=Tryz.prog) (args:=#[zS3 x]) hr (by rw[hrec];exact hps.symm);rw[hrec]at hy;refine⟨fn,_,assign,body,hy,roundIn_of_wpIn hfn (wpIn_mono (hround m (w.heap.size+1) B pre x W hpx hi hl n1 hlt) ?_)⟩;clear hy;intro e0 a0 Wa hp0;cases e0 with
     |exit _=>exact hp0.elim
     |goto _=>exact hp0.elim
     |ret=>exact hp0.elim
     |panic _=>exact hp0.elim
     |outgrown=>exact hp0.elim
     |normal=>
     obtain⟨hu0,hbody⟩:=hp0;have hra:Wa.heap[w.heap.size+1]?=some (.loop (rec .ready none)):=(hu0.block _ hlt id).trans hr;have hda:Wa.heap[w.heap.size]?=some (.deferred (some [])):=(hu0.block _ (by omega) id).trans hd;have hlta:w.heap.size+1<Wa.heap.size:=(Array.getElem?_eq_some_iff.1 hra).1;refine⟨_,run_beginRound hra (by rw[hrec]),?_⟩;have hu1':Upd (fun k=>k=w.heap.size+1) Wa (Wa.putObj (w.heap.size+1) (.loop { rec .ready none with state := .busy })):=Upd.put _ _;have hl2:(Wa.putObj (w.heap.size+1) (.loop { rec .ready none with state := .busy })).heap[w.heap.size+1]?=some (.loop { rec .ready none with state := .busy }):=World.putObj_heap_same hlta;have hk2:(Wa.putObj (w.heap.size+1) (.loop { rec .ready none with state := .busy })).heap[w.heap.size]?=some (.deferred (some [])):=(World.putObj_heap_other (by omega)).trans hda;have hbody2:=hbody _ hu1';clear hbody;generalize (Wa.putObj (w.heap.size+1) (.loop { rec .ready none with state := .busy }))=Wb at hu1' hl2 hk2 hbody2;have hu1:Upd (fun k=>k=w.heap.size+1) W Wb:=(hu0.mono fun k h=>h.elim).trans hu1' (fun _ _ h=>h);have hszb:w.heap.size+1<Wb.heap.size:=(Array.getElem?_eq_some_iff.1 hl2).1;refine wpIn_mono hbody2 ?_
     have fin:∀(jump:Option Code) (W3:World),Upd B Wb W3 →
      (Instr.endRound (w.heap.size+1) jump).run Tryz.prog W3 = .ok (.bool jump.isNone) (W3.putObj (w.heap.size+1) (.loop (rec (if jump.isNone then .ready else .done) jump))) ∧
      (W3.putObj (w.heap.size+1) (.loop (rec (if jump.isNone then .ready else .done) jump))).heap[w.heap.size+1]?=some (.loop (rec (if jump.isNone then .ready else .done) jump)) ∧
      (W3.putObj (w.heap.size+1) (.loop (rec (if jump.isNone then .ready else .done) jump))).heap[w.heap.size]?=some (.deferred (some [])):=fun jump W3 hu3=>by
      have hl3:=(hu3.block _ hszb n1).trans hl2;have hd3:=(hu3.block _ (by omega) n2).trans hk2;have:=run_endRound (P:=Tryz.prog) jump hl3;rw[hrec]at this ⊢;exact⟨this,World.putObj_heap_same (Array.getElem?_eq_some_iff.1 hl3).1,(World.putObj_heap_other (by omega)).trans hd3⟩
     have out:∀(Z:CI) (B':Nat→Prop) (W3:World) (o:Obj),zGf w.heap.size Z→Ext B B' Wb→Lies B' W3→Upd B Wb W3→Z B' (pre++[x]) W3 →
      Ext A2 (fun k=>B' k∨k=w.heap.size+1∨k=w.heap.size) W∧Lies (fun k=>B' k∨k=w.heap.size+1∨k=w.heap.size) (W3.putObj (w.heap.size+1) o)∧Upd A2 W (W3.putObj (w.heap.size+1) o)∧¬B' (w.heap.size+1)∧¬B' w.heap.size∧Lies B' (W3.putObj (w.heap.size+1) o)∧Z B' (pre++[x]) (W3.putObj (w.heap.size+1) o):=fun Z B' W3 o hZ he hl3 hu3 hi3=>by
      (have m1:¬B' (w.heap.size+1):=fun h=>(he.2 _ h).elim n1 (fun g=>by omega));(have m2:¬B' w.heap.size:=fun h=>(he.2 _ h).elim n2 (fun g=>by omega));have hu4:Upd (fun k=>k=w.heap.size+1) W3 (W3.putObj (w.heap.size+1) o):=Upd.put _ _;refine⟨⟨fun k hk=>?_,fun k hk=>?_⟩,fun k hk=>?_,?_,m1,m2,fun k hk=>by rw[World.putObj_size];exact hl3 k hk,hZ _ _ _ _ hi3 (hu4.mono fun k e=>by subst e;exact⟨m1,by omega⟩)⟩
      · rcases(hiff k).1 hk with h|h
        · exact .inl (he.1 k h)
        · exact .inr h
      · rcases hk with h|h
        · rcases he.2 k h with h|h
          · exact .inl ((hiff k).2 (.inl h))
          · exact .inr (Nat.le_trans hu1.size h)
        · exact .inl ((hiff k).2 (.inr h))
      · rw[World.putObj_size]
        have:=hu3.size;rcases hk with h|h|h
        · exact hl3 k h
        · omega
        · omega
      · exact((hu1.mono (G:=A2) fun k e=>(hiff k).2 (.inr (.inl e))).trans (hu3.mono (G:=A2) fun k h=>(hiff k).2 (.inl h)) (fun _ _ h=>h)).trans (hu4.mono (G:=A2) fun k e=>(hiff k).2 (.inr (.inl e))) (fun _ _ h=>h)
     rintro e a3 W3 hp;cases e with
     |normal=>
      obtain⟨B',he,hl3,hu3,hi3⟩:=hp;obtain⟨hr',f1,f2⟩:=fin none W3 hu3;obtain⟨g1,g2,g3,m1,m2,g4,g5⟩:=out I B' W3 _ hI he hl3 hu3 hi3;exact⟨_,_,hr',.inl ⟨rfl,_,g1,g2,g3,B',fun k=>Iff.rfl,m1,m2,g4,f1,f2,g5⟩⟩
     |ret=>
      obtain⟨B',he,hl3,hu3,hi3⟩:=hp;obtain⟨hr',f1,f2⟩:=fin (some .ret) W3 hu3;obtain⟨g1,g2,g3,m1,m2,g4,g5⟩:=out (X .ret) B' W3 _ (hX _) he hl3 hu3 hi3;exact⟨_,_,hr',.inr ⟨rfl,_,g1,g2,g3,B',.ret,fun k=>Iff.rfl,m1,m2,g4,f1,f2,g5⟩⟩
     |exit id=>
      obtain⟨B',he,hl3,hu3,hi3⟩:=hp;obtain⟨hr',f1,f2⟩:=fin (some (.exit id)) W3 hu3;obtain⟨g1,g2,g3,m1,m2,g4,g5⟩:=out (X (.exit id)) B' W3 _ (hX _) he hl3 hu3 hi3;exact⟨_,_,hr',.inr ⟨rfl,_,g1,g2,g3,B',.exit id,fun k=>Iff.rfl,m1,m2,g4,f1,f2,g5⟩⟩
     |goto t=>
      obtain⟨B',he,hl3,hu3,hi3⟩:=hp;obtain⟨hr',f1,f2⟩:=fin (some (.goto t)) W3 hu3;obtain⟨g1,g2,g3,m1,m2,g4,g5⟩:=out (X (.goto t)) B' W3 _ (hX _) he hl3 hu3 hi3;exact⟨_,_,hr',.inr ⟨rfl,_,g1,g2,g3,B',.goto t,fun k=>Iff.rfl,m1,m2,g4,f1,f2,g5⟩⟩
     |panic ch=>exact hp.elim
     |outgrown=>exact hp.elim
   · refine⟨A,fun k=>Iff.rfl,fun h=>?_,fun h=>?_,fun k hk=>Nat.lt_of_lt_of_le (hA k hk) hb1.size,hL1,hK1,hI _ _ _ _ h0 (Upd.of_below hb1)⟩
     · have:=hA _ h;omega
     · have:=hA _ h;omega
   · rintro k (h|h|h)
     · exact Nat.lt_of_lt_of_le (hA k h) hb1.size
     · omega
     · omega
   · rintro e W2 ⟨⟨v,rfl⟩,⟨A',he,hl2,hu2,B,hiff,n1,n2,hl,hr,hd,hi⟩|⟨q,A',hq,he,hl2,hu2,B,c,hiff,n1,n2,hl,hr,hd,hx⟩⟩
     · refine⟨none,_,by have:=run_endLoop (P:=Tryz.prog) hr (by rw[hrec];simp);rw[hrec]at this;exact this,?_⟩
       exact hdone B _ (fun k hk=>by rw[World.putObj_size];exact hl k hk) (hI _ _ _ _ hi ((Upd.put _ _).mono fun k e=>by subst e;exact⟨n1,by omega⟩)) ((World.putObj_heap_other (by omega)).trans hd)
     · refine⟨some c,_,by have:=run_endLoop (P:=Tryz.prog) hr (by rw[hrec];simp);rw[hrec]at this;exact this,?_⟩
       exact(wpIn_wide (n:=0)).2 (hstop c B q _ hq (fun k hk=>by rw[World.putObj_size];exact hl k hk) (hX c _ _ _ _ hx ((Upd.put _ _).mono fun k e=>by subst e;exact⟨n1,by omega⟩)) ((World.putObj_heap_other (by omega)).trans hd))
end
namespace Pk
open Go.Proofs.YtkdhdehobdfakaaGreatDoor.Nums
structure RArc where
 label:Int
 out:Int
 to:Int
deriving DecidableEq
structure RSt where
 final:Bool
 out:Int
 arcs:List RArc
deriving DecidableEq
def minF(m:Int):List RArc→Int
 |[]=>m
 |a::r=>minF (min m a.out) r
def zG5(s:RSt):Int:=minF (if s.final then s.out else 9223372036854775807) s.arcs
def zC8(r:Int):Bool:=isR r&&vis r
def ordB(n:Int):Option Int→List RArc→Bool
 |_,[]=>true
 |p,a::r=>!(p.any fun q=>decide (a.label≤q))&&zC8 a.label&&decide (0≤a.to∧a.to<n)&&ordB n (some a.label) r
def zI9(s:RSt)(i:Nat):Bool:=(s.final||decide (s.out=0))&&decide (zG5 s=0)&&ordB i none s.arcs
def zBg:Nat→List RSt→Bool
 |_,[]=>true
 |i,s::r=>zI9 s i&&zBg (i+1) r
structure Reach where
 arcs:Int
 words:Int
 weight:Int
deriving DecidableEq
def zE6(known:List Reach)(r:Reach)(a:RArc):Reach:=
 ⟨max r.arcs ((known.getD a.to.toNat ⟨0,0,0⟩).arcs+1),r.words+(known.getD a.to.toNat ⟨0,0,0⟩).words,max r.weight (min a.out 1048576+(known.getD a.to.toNat ⟨0,0,0⟩).weight)⟩
def behR(s:RSt)(known:List Reach):Reach:=s.arcs.foldl (zE6 known) (if s.final then ⟨0,1,s.out⟩else ⟨0,0,0⟩)
def okR(base:Int)(r:Reach):Bool:=decide (r.arcs≤24∧r.words≤4096∧r.weight≤1048576-base)
def bndB(base:Int):List Reach→List RSt→Bool
 |_,[]=>true
 |known,s::r=>okR base (behR s known)&&bndB base (known++[behR s known]) r
def zDm(visit:Nat→Nat→Option Nat):List RArc→Nat→Option Nat
 |[],next=>some next
 |a::r,next=>if (next:Int)≤a.to then (visit a.to.toNat next).bind (zDm visit r)else zDm visit r next
def vis8(m:List RSt):Nat→Nat→Nat→Option Nat
 |0,_,_=>none
 |f+1,n,next=>(zDm (vis8 m f) (m.getD n ⟨false,0,[]⟩).arcs next).bind fun k=>if n=k then some (k+1)else none
def numB(m:List RSt):Bool:=(vis8 m (m.length+25) (m.length-1) 0).isSome
def rightB(base:Int)(m:List RSt):Bool:=
 if m=[]then decide (base=0)else
  decide (1≤base∧base≤1048576)&&!(m.getD (m.length-1) ⟨false,0,[]⟩).final&&zBg 0 m&&bndB base [] m&&numB m&&decide m.Nodup
end Pk
namespace Pk
open Go.Proofs.YtkdhdehobdfakaaGreatDoor.Nums Go.Proofs.YtkdhdehobdfakaaGreatDoor.Fm
def zAs(a:Arc):RArc:=⟨a.label,a.out,a.to⟩
def ofSt(s:St):RSt:=⟨s.final,s.out,s.arcs.map zAs⟩
theorem zVp{a c:Arc}(h:zAs a=zAs c):a=c:=by
 cases a;cases c;simp only[zAs,RArc.mk.injEq]at h;obtain⟨h1,h2,h3⟩:=h;simp only[Arc.mk.injEq];exact⟨h1,h2,by omega⟩
theorem zJr:∀{l m:List Arc},l.map zAs=m.map zAs→l=m
 |[],[],_=>rfl
 |[],_::_,h=>by simp at h
 |_::_,[],h=>by simp at h
 |a::l,c::m,h=>by
  simp only[List.map_cons,List.cons.injEq]at h;rw[zVp h.1,zJr h.2]
theorem ofSt_inj{s t:St}(h:ofSt s=ofSt t):s=t:=by
 cases s;cases t;simp only[ofSt,RSt.mk.injEq]at h;obtain⟨h1,h2,h3⟩:=h;rw[h1,h2,zJr h3]
theorem zQw {f : Nat} (ih : ∀ (D : List (List En)) (b : List St) (S : List En), Inv D b → Fm.Good f S →
      ((refF f D b S).2.1=b∧(refF f D b S).2.2<b.length)∨((refF f D b S).2.2+1=(refF f D b S).2.1.length∧b.length≤(refF f D b S).2.2∧b<+:(refF f D b S).2.1∧∀M,(refF f D b S).2.1<+:M→∀F,f≤F→vis8 (M.map ofSt) F (refF f D b S).2.2 b.length=some (refF f D b S).2.1.length)):
 ∀(gs:List (Int×List En)) (D:List (List En)) (b:List St),Inv D b→(∀p∈gs,Fm.Good f p.2)→b<+:(refA (refF f) D b gs).2.1∧∀M,(refA (refF f) D b gs).2.1<+:M→∀F,f≤F→zDm (vis8 (M.map ofSt) F) ((refA (refF f) D b gs).2.2.map zAs) b.length=some (refA (refF f) D b gs).2.1.length
 |[],D,b,_,_=>⟨List.prefix_refl _,fun M _ F _=>rfl⟩
 |(c,G)::r,D,b,hI,hG=>by
  have hGG:=hG (c,G) (by simp);obtain⟨e1,e2⟩:=zMx f D b G hI hGG;have e2':Inv (refF f D b G).1 (refF f D b G).2.1:=by rw[e1];exact e2
  obtain⟨p1,p2⟩:=zQw ih r (refF f D b G).1 (refF f D b G).2.1 e2' (fun p hp=>hG p (by simp[hp]));rw[refA];simp only[List.map_cons];rcases ih D b G hI hGG with⟨h1,h2⟩|⟨h1,h2,h3,h4⟩
  · rw[h1]at p1 p2 ⊢
    refine⟨p1,fun M hM F hF=>?_⟩;rw[zDm,if_neg (by simp only[zAs];omega)];exact p2 M hM F hF
  · refine⟨h3.trans p1,fun M hM F hF=>?_⟩
    rw[zDm,if_pos (by simp only[zAs];omega)];have:=h4 M (p1.trans hM) F hF;simp only[zAs,Int.toNat_natCast];rw[this];exact p2 M hM F hF
theorem zQv : ∀ (f : Nat) (D : List (List En)) (b : List St) (S : List En), Inv D b → Fm.Good f S →
      ((refF f D b S).2.1=b∧(refF f D b S).2.2<b.length)∨((refF f D b S).2.2+1=(refF f D b S).2.1.length∧b.length≤(refF f D b S).2.2∧b<+:(refF f D b S).2.1∧∀M,(refF f D b S).2.1<+:M→∀F,f≤F→vis8 (M.map ofSt) F (refF f D b S).2.2 b.length=some (refF f D b S).2.1.length)
 |0,_,_,S,_,h=>by
  obtain⟨h0,_,h2⟩:=h;cases S with
  |nil=>exact absurd rfl h0
  |cons e r=>exact absurd (h2 e (by simp)) (by omega)
 |f+1,D,b,S,hI,hG=>by
  rw[refF];by_cases hm:zAd S∈D
  · rw[if_pos hm]
    refine .inl ⟨rfl,?_⟩;have:=List.idxOf_lt_length_of_mem hm;simp only;rw[←hI.len];exact this
  · rw[if_neg hm]
    have hGl:Fm.Good (f+1) (zAd S):=⟨zHh.2 hG.1,by unfold Rise zAd zAi;rw[List.pairwise_map];exact hG.2.1,fun e he=>by
     obtain⟨x,hx,rfl⟩:=List.mem_map.1 he;exact hG.2.2 x hx⟩
    obtain⟨p1,p2⟩:=zQw (zQv f) (grp (zAj (zAd S))) D b hI (zCu hGl);generalize refA (refF f) D b (grp (zAj (zAd S)))=q at p1 p2;obtain⟨D1,b1,acc⟩:=q;simp only at p1 p2 ⊢;refine .inr ⟨by simp,p1.length_le,p1.trans (List.prefix_append _ _),fun M hM F hF=>?_⟩;obtain⟨F',rfl⟩:∃F',F=F'+1:=⟨F-1,by omega⟩;have hn:(M.map ofSt).getD b1.length ⟨false,0,[]⟩=ofSt ⟨zCw S,zCi (zAd S),acc⟩:=by
     obtain⟨t,rfl⟩:=hM;simp[List.getD_eq_getElem?_getD]
    rw[vis8,hn];have:=p2 M ((List.prefix_append _ _).trans hM) F' (by omega);show Option.bind (zDm (vis8 (M.map ofSt) F') (acc.map zAs) b.length) _=_;rw[this];simp
def mxL:List En→Int
 |[]=>0
 |e::r=>max (e.1.length:Int) (mxL r)
def mxW:List En→Int
 |[]=>0
 |e::r=>max e.2 (mxW r)
theorem mxL_nn:∀l:List En,0≤mxL l
 |[]=>Int.le_refl _
 |e::r=>by rw[mxL];have:=mxL_nn r;omega
theorem mxW_nn:∀l:List En,0≤mxW l
 |[]=>Int.le_refl _
 |e::r=>by rw[mxW];have:=mxW_nn r;omega
theorem zJu:∀a b:List En,mxL (a++b)=max (mxL a) (mxL b)
 |[],b=>by have:=mxL_nn b;simp only[List.nil_append,mxL];omega
 |e::r,b=>by rw[List.cons_append,mxL,mxL,zJu r b];omega
theorem zJt:∀a b:List En,mxW (a++b)=max (mxW a) (mxW b)
 |[],b=>by have:=mxW_nn b;simp only[List.nil_append,mxW];omega
 |e::r,b=>by rw[List.cons_append,mxW,mxW,zJt r b];omega
theorem mxL_le:∀(l:List En) (n:Int),0≤n→(∀e∈l,(e.1.length:Int)≤n)→mxL l≤n
 |[],n,h,_=>h
 |e::r,n,h,hl=>by
  rw[mxL];have:=mxL_le r n h fun x hx=>hl x (by simp[hx])
  have:=hl e (by simp);omega
theorem mxW_le:∀(l:List En) (n:Int),0≤n→(∀e∈l,e.2≤n)→mxW l≤n
 |[],n,h,_=>h
 |e::r,n,h,hl=>by
  rw[mxW];have:=mxW_le r n h fun x hx=>hl x (by simp[hx])
  have:=hl e (by simp);omega
theorem zVv(c n:Int):∀l:List En,l≠[]→mxL ((zAi n l).map (pre c))=mxL l+1
 |[e],_=>by
  simp only[zAi,pre,List.map_cons,List.map_nil,mxL,List.length_cons];omega
 |e::x::r,_=>by
  have ih:=zVv c n (x::r) (by simp);have e1:(zAi n (e::x::r)).map (pre c)=(c::e.1,e.2+n)::(zAi n (x::r)).map (pre c):=rfl;have e2:mxL (e::x::r)=max (e.1.length:Int) (mxL (x::r)):=rfl;rw[e1,mxL,ih,e2];simp only[List.length_cons];omega
theorem zVu(c n:Int)(hn:0≤n):∀l:List En,l≠[]→(∀e∈l,0≤e.2)→mxW ((zAi n l).map (pre c))=n+mxW l
 |[e],_,h=>by
  have:=h e (by simp);simp only[zAi,pre,List.map_cons,List.map_nil,mxW];omega
 |e::x::r,_,h=>by
  have ih:=zVu c n hn (x::r) (by simp) (fun y hy=>h y (by simp only[List.mem_cons]at hy ⊢;exact .inr hy));have e1:(zAi n (e::x::r)).map (pre c)=(c::e.1,e.2+n)::(zAi n (x::r)).map (pre c):=rfl;have e2:mxW (e::x::r)=max e.2 (mxW (x::r)):=rfl;rw[e1,mxW,ih,e2];simp only;omega
def zE1(R:List En):Reach:=⟨mxL R,R.length,mxW R⟩
theorem zR4(D:List (List En))(known:List Reach)(hk:∀(j:Nat) (R:List En),D[j]?=some R→known[j]?=some (zE1 R))(hD:∀R∈D,R≠[]∧∀e∈R,0≤e.2):
 ∀(l:List Arc) (T:List En),(∀a∈l,a.to<D.length∧0≤a.out∧a.out≤1048576)→(l.map zAs).foldl (zE6 known) (zE1 T)=zE1 (T++flat (outs D l))
 |[],T,_=>by simp[outs,flat]
 |a::l,T,h=>by
  obtain⟨h1,h2,h3⟩:=h a (by simp);have hR:D[a.to]?=some D[a.to]:=List.getElem?_eq_getElem h1;obtain⟨g1,g2⟩:=hD _ (List.getElem_mem h1);have hkn:=hk _ _ hR;have hstep:zE6 known (zE1 T) (zAs a)=zE1 (T++(zAi a.out D[a.to]).map (pre a.label)):=by
   unfold zE6 zE1;simp only[zAs,Int.toNat_natCast,List.getD_eq_getElem?_getD,hkn,Option.getD_some,zE1];rw[zJu,zJt,zVv _ _ _ g1,zVu _ _ h2 _ g1 g2];simp only[Reach.mk.injEq,List.length_append,List.length_map];refine⟨trivial,?_,?_⟩
   · simp[zAi]
   · congr 1
     omega
  rw[List.map_cons,List.foldl_cons,hstep,zR4 D known hk hD l _ (fun x hx=>h x (by simp[hx]))];congr 1;simp only[outs,flat,List.map_cons,List.flatMap_cons,hR,Option.getD_some,List.append_assoc]
theorem beh_exp{D:List (List En)}{known:List Reach}(hk:∀(j:Nat) (R:List En),D[j]?=some R→known[j]?=some (zE1 R))(hD:∀R∈D,R≠[]∧∀e∈R,0≤e.2){s:St}(h:∀a∈s.arcs,a.to<D.length∧0≤a.out∧a.out≤1048576)(ho:s.final=true→0≤s.out):behR (ofSt s) known=zE1 (exp D s):=by
 unfold behR exp;have e1:(if (ofSt s).final then (⟨0,1,(ofSt s).out⟩:Reach)else ⟨0,0,0⟩)=zE1 (fins s):=by
  show(if s.final then (⟨0,1,s.out⟩:Reach)else ⟨0,0,0⟩)=_;unfold fins zE1;cases hf:s.final with
  |false=>rfl
  |true=>
   have:=ho hf;simp only[if_true,mxL,mxW,List.length_nil,List.length_singleton,Reach.mk.injEq];omega
 rw[e1];exact zR4 D known hk hD s.arcs (fins s) h
theorem exp_take{D:List (List En)}{s:St}{i:Nat}(h:∀a∈s.arcs,a.to<i)(hi:i≤D.length):exp D s=exp (D.take i) s:=
 zIl (List.take_prefix i D) (fun a ha=>by rw[List.length_take];have:=h a ha;omega)
structure Rests(base:Int)(D:List (List En)):Prop where
 ne:∀R∈D,R≠[]
 nn:∀R∈D,∀e∈R,0≤e.2
 ln:∀R∈D,∀e∈R,e.1.length≤24
 few:∀R∈D,R.length≤4096
 wt:∀R∈D,∀e∈R,e.2≤1048576-base
 rn:∀R∈D,∀e∈R,∀c∈e.1,zC8 c=true
 lo:1≤base
 hi:base≤1048576
theorem arc_in{D:List (List En)}{s:St}{a:Arc}(ha:a∈s.arcs)(ht:a.to<D.length){e:En}(he:e∈D[a.to]):(a.label::e.1,e.2+a.out)∈exp D s:=by
 unfold exp;refine List.mem_append.2 (.inr ?_);unfold flat outs;refine List.mem_flatMap.2 ⟨(a.label,zAi a.out (D[a.to]?.getD [])),List.mem_map.2 ⟨a,ha,rfl⟩,?_⟩;rw[List.getElem?_eq_getElem ht];exact List.mem_map.2 ⟨(e.1,e.2+a.out),List.mem_map.2 ⟨e,he,rfl⟩,rfl⟩
theorem zDl{base:Int}{D:List (List En)}{b:List St}(hI:Inv D b)(hR:Rests base D){i:Nat}{s:St}(hi:b[i]?=some s):∀a∈s.arcs,a.to<i∧0≤a.out∧a.out≤1048576∧zC8 a.label=true:=fun a ha=>by
 obtain⟨e1,e2,e3⟩:=hI.row i s hi;have ht:=e3.to a ha;have hne:=hR.ne _ (List.getElem_mem ht);obtain⟨e,he⟩:=List.exists_mem_of_ne_nil _ hne;have hin:=arc_in ha ht he;have hD:=List.mem_of_getElem? e1;have h1:=hR.wt _ hD _ hin;have h2:=hR.rn _ hD _ hin a.label (by simp);have h3:=hR.nn _ (List.getElem_mem ht) e he;have h4:=hR.lo;obtain⟨_,h5,_⟩:=zCp hI hi;have:=h5 a ha;simp only at h1;exact⟨e2 a ha,by omega,by omega,h2⟩
theorem zYg{base:Int}{D:List (List En)}{b:List St}(hI:Inv D b)(hR:Rests base D):∀(n:Nat),n≤b.length→bndB base ((D.take (b.length-n)).map zE1) ((b.drop (b.length-n)).map ofSt)=true
 |0,_=>by simp[bndB]
 |n+1,hn=>by
  have ih:=zYg hI hR n (by omega);obtain⟨i,hi⟩:∃i,i=b.length-(n+1):=⟨_,rfl⟩;have hi1:b.length-n=i+1:=by omega
  rw[hi1]at ih;rw[←hi];have hil:i<b.length:=by omega
  obtain⟨s,hs⟩:∃s,b[i]?=some s:=⟨b[i],List.getElem?_eq_getElem hil⟩;obtain⟨e1,e2,e3⟩:=hI.row i s hs;have hdr:b.drop i=s::b.drop (i+1):=by rw[List.drop_eq_getElem_cons hil];congr 1;rw[List.getElem?_eq_getElem hil]at hs;exact Option.some.inj hs
  have hiD:i≤D.length:=by have:=hI.len;omega
  obtain⟨l1,l2,l3⟩:=zCp hI hs;have hbe:behR (ofSt s) ((D.take i).map zE1)=zE1 (exp D s):=by
   rw[exp_take e2 hiD];refine beh_exp (fun j R hj=>by rw[List.getElem?_map,hj];rfl) (fun R hR'=>?_) (fun a ha=>?_) l1
   · have:=List.mem_of_mem_take hR'
     exact⟨hR.ne R this,hR.nn R this⟩
   · obtain⟨a1,a2,a3,_⟩:=zDl hI hR hs a ha
     exact⟨by rw[List.length_take];omega,a2,a3⟩
  have hD:=List.mem_of_getElem? e1;have htk:D.take (i+1)=D.take i++[exp D s]:=by rw[List.take_add_one,e1];rfl
  rw[hdr,List.map_cons,bndB,hbe];have hok:okR base (zE1 (exp D s))=true:=by
   unfold okR zE1;have h1:=mxL_le (exp D s) 24 (by omega) (fun e he=>by have:=hR.ln _ hD e he;omega);have h2:=hR.few _ hD;have h3:=mxW_le (exp D s) (1048576-base) (by have:=hR.hi;omega) (fun e he=>hR.wt _ hD e he);simp only[decide_eq_true_eq];omega
  rw[hok,Bool.true_and];rw[htk,List.map_append]at ih;exact ih
theorem zV1:∀(l:List RArc) (m:Int),minF m l≤m∧∀a∈l,minF m l≤a.out
 |[],m=>⟨Int.le_refl _,fun a ha=>by cases ha⟩
 |a::r,m=>by
  obtain⟨h1,h2⟩:=zV1 r (min m a.out);rw[minF];refine⟨by omega,fun x hx=>?_⟩;rcases List.mem_cons.1 hx with rfl|hx
  · omega
  · exact h2 x hx
theorem zV0:∀(l:List RArc) (m:Int),0≤m→(∀a∈l,0≤a.out)→0≤minF m l
 |[],m,h,_=>h
 |a::r,m,h,hl=>by
  rw[minF];have:=hl a (by simp);exact zV0 r _ (by omega) fun x hx=>hl x (by simp[hx])
theorem ord_of:∀(l:List RArc) (n:Int) (p:Option Int),l.Pairwise (fun a c=>a.label<c.label)→(∀a∈l,zC8 a.label=true∧0≤a.to∧a.to<n)→(∀q,p=some q→∀a∈l,q<a.label)→ordB n p l=true
 |[],_,_,_,_,_=>rfl
 |a::r,n,p,hp,ha,hq=>by
  obtain⟨h1,h2⟩:=List.pairwise_cons.1 hp;obtain⟨g1,g2,g3⟩:=ha a (by simp);have hany:(p.any fun q=>decide (a.label≤q))=false:=by
   cases p with
   |none=>rfl
   |some q=>
    have:=hq q rfl a (by simp);simp only[Option.any_some,decide_eq_false_iff_not];omega
  rw[ordB,hany,g1,decide_eq_true ⟨g2,g3⟩];simp only[Bool.not_false,Bool.true_and];exact ord_of r n _ h2 (fun x hx=>ha x (by simp[hx])) (fun q hq' x hx=>by cases hq';exact h1 x hx)
theorem zXh:∀(l:List RSt) (i:Nat),(∀(j:Nat) (s:RSt),l[j]?=some s→zI9 s (i+j)=true)→zBg i l=true
 |[],_,_=>rfl
 |s::r,i,h=>by
  have h0:=h 0 s rfl;rw[Nat.add_zero]at h0;rw[zBg,h0,Bool.true_and];exact zXh r (i+1) fun j t hj=>by have:=h (j+1) t (by simpa using hj);rwa [show i+(j+1)=i+1+j by omega]at this
theorem form_inv{base:Int}{D:List (List En)}{b:List St}(hI:Inv D b)(hR:Rests base D):zBg 0 (b.map ofSt)=true:=by
 refine zXh _ _ fun j t hj=>?_
 rw[List.getElem?_map]at hj;obtain⟨s,hs,rfl⟩:=Option.map_eq_some_iff.1 hj;rw[Nat.zero_add];obtain⟨e1,e2,e3⟩:=hI.row j s hs;obtain⟨l1,l2,l3⟩:=zCp hI hs;have hf:=zDl hI hR hs;have h1:((ofSt s).final||decide ((ofSt s).out=0))=true:=by
  show(s.final||decide (s.out=0))=true;cases hfi:s.final with
  |true=>rfl
  |false=>simp[e3.fin hfi]
 have h2:zG5 (ofSt s)=0:=by
  show minF (if s.final then s.out else 9223372036854775807) (s.arcs.map zAs)=0;have hm:∀a∈s.arcs.map zAs,0≤a.out:=fun a ha=>by
   obtain⟨x,hx,rfl⟩:=List.mem_map.1 ha;exact(hf x hx).2.1
  have hm0:0≤(if s.final then s.out else 9223372036854775807:Int):=by
   cases hfi:s.final with
   |true=>rw[if_pos rfl];exact l1 hfi
   |false=>rw[if_neg (by decide)];decide
  obtain⟨q1,q2⟩:=zV1 (s.arcs.map zAs) (if s.final then s.out else 9223372036854775807);have q3:=zV0 (s.arcs.map zAs) (if s.final then s.out else 9223372036854775807) hm0 hm;rcases l3 with⟨f1,f2⟩|⟨a,ha,f2⟩
  · rw[f1,if_pos rfl,f2]at q1 q3 ⊢
    omega
  · have:=q2 (zAs a) (List.mem_map.2 ⟨a,ha,rfl⟩)
    simp only[zAs]at this;omega
 have h3:ordB j none (ofSt s).arcs=true:=by
  simp only[ofSt];refine ord_of _ _ _ ?_ (fun a ha=>?_) (fun q hq=>by cases hq)
  · rw[List.pairwise_map]
    exact e3.lab
  · obtain⟨x,hx,rfl⟩:=List.mem_map.1 ha
    obtain⟨a1,a2,a3,a4⟩:=hf x hx;simp only[zAs];exact⟨a4,by omega,by omega⟩
 unfold zI9;rw[h1,h2,h3];rfl
end Pk
namespace Pk
open Go.Proofs.YtkdhdehobdfakaaGreatDoor.Nums Go.Proofs.YtkdhdehobdfakaaGreatDoor.Fm Go.Proofs.YtkdhdehobdfakaaGreatDoor
theorem zMq{S R:List En}(h:Sub S R){P:Int→Prop}:(∀e∈S,∀c∈e.1,P c)→∀e∈R,∀c∈e.1,P c:=by
 induction h with
 |here S=>
  intro hS e he c hc;obtain⟨x,hx,rfl⟩:=List.mem_map.1 he;exact hS x hx c hc
 |step hp _ ih=>
  intro hS;refine ih fun e he c hc=>?_
  obtain⟨x,hx,rfl⟩:=zXc _ _ (Nat.le_refl _) _ hp e he;exact hS x (zEg hx) c (List.mem_of_mem_tail hc)
theorem zNr{l:List Pr}(h:zAl l=0):∀e∈ents l,∀c∈e.1,zC8 c=true:=by
 unfold zAl at h
 split at h
 · cases h
 · have ha:=zF6 l none h
   intro e he c hc;obtain⟨x,hx,rfl⟩:=List.mem_map.1 he;have hw:=(ha x hx).1;obtain⟨xs,h1,_,_,_,h4⟩:=zA3 hw;unfold zAq at hw;rw[h1]at hw;simp only[Bool.and_eq_true]at hw;rw[zCx,h1]at hc;simp only[Option.getD_some]at hc;unfold zC8;rw[List.all_eq_true.1 h4 c hc,List.all_eq_true.1 hw.2 c hc];rfl
theorem zJ6{l:List Pr}(h:zAl l=0)(hl:l≠[]):∃D,Fm.Inv D (stF 25 [] (ents l)).1∧Rests (least (ents l)) D:=by
 have hG:=zCd h hl;have hD:=zB0 h;obtain⟨D,M⟩:=zCf 25 [] [] (ents l) Inv.nil hG;have hI:=M.inv;have hne:=zLr hl;obtain⟨z0,hz0,hz0w⟩:=zBz hne;have hw0:=hD.en.wt z0 hz0;rw[hz0w]at hw0;have hsub:∀R∈D,Sub (ents l) R:=fun R hR=>(M.sub R hR).resolve_left (fun h=>by cases h)
 have hR:Rests (least (ents l)) D:=by
  have hb:∀R∈D,∃B:List En,R=zAd B∧B.length≤(ents l).length∧∀e∈B,∃x∈ents l,e.2=x.2∧e.1.length≤x.1.length:=fun R hR=>by
   obtain⟨xs,n,hx,k,hk,rfl⟩:=zKq (hsub R hR) hD.rise hne;exact⟨_,rfl,zE0 _ _,fun e he=>zEz _ _ _ he⟩
  refine⟨fun R hR=>(hI.lv R hR).1,fun R hR e he=>?_,fun R hR e he=>?_,fun R hR=>?_,fun R hR e he=>?_,fun R hR=>zMq (hsub R hR) (zNr h),hw0.1,hw0.2⟩
  · have:=zCb he
    rw[(hI.lv R hR).2]at this;exact this
  · obtain⟨B,rfl,_,h3⟩:=hb R hR
    obtain⟨x,hx,rfl⟩:=List.mem_map.1 he;obtain⟨y,hy,_,h5⟩:=h3 x hx;have:=hD.en.ln y hy;simp only;omega
  · obtain⟨B,rfl,h2,_⟩:=hb R hR
    (have h3:(zAd B).length=B.length:=by simp[zAd,zAi]);(have h4:(ents l).length=l.length:=by simp[ents]);have:=hD.len;omega
  · obtain⟨B,rfl,_,h3⟩:=hb R hR
    obtain⟨x,hx,rfl⟩:=List.mem_map.1 he;obtain⟨y,hy,h4,_⟩:=h3 x hx;(have hB:B≠[]:=fun e=>by rw[e]at hx;cases hx);obtain⟨u,hu,hu2⟩:=zBz hB;obtain⟨v,hv,h5,_⟩:=h3 u hu;have h6:=zCb hv;have h7:=hD.en.wt y hy;simp only;omega
 exact⟨D,hI,hR⟩
theorem zPy{l:List Pr}(h:zAl l=0):∀(i:Nat) (s:St),(zAf l).2[i]?=some s→(0≤s.out∧s.out≤1048576)∧∀a∈s.arcs,(0≤a.label∧a.label<1114112)∧(0≤a.out∧a.out≤1048576)∧a.to<i:=by
 intro i s hi;by_cases hl:l=[]
 · subst hl
   simp[zAf]at hi
 have hM:zAf l=(least (ents l),(stF 25 [] (ents l)).1):=by rw[zAf,if_pos ⟨h,hl⟩]
 rw[hM]at hi;obtain⟨D,hI,hR⟩:=zJ6 h hl;simp only at hi;refine⟨?_,fun a ha=>?_⟩
 · obtain⟨e1,_,e3⟩:=hI.row i s hi
   obtain⟨l1,_,_⟩:=zCp hI hi;cases hf:s.final with
   |false=>rw[e3.fin hf];omega
   |true=>
    (have hin:(([]:List Int),s.out)∈exp D s:=by unfold exp fins;rw[hf];simp);have:=hR.wt _ (List.mem_of_getElem? e1) _ hin;have:=hR.lo;have:=l1 hf;simp only at *;omega
 · obtain⟨a1,a2,a3,a4⟩:=zDl hI hR hi a ha
   unfold zC8 at a4;simp only[Bool.and_eq_true]at a4;have:=of_decide_eq_true a4.1;exact⟨⟨this.1,this.2.1⟩,⟨a2,a3⟩,a1⟩
theorem zRa{l:List Pr}:(zAf l).2.length≤102400:=by
 rw[zAf]
 split
 · rename_i h
   have hg:=zCd h.1 h.2;have h1:=(zFp 25 [] (ents l) (zEq 25 _ hg.1 hg.2.1 hg.2.2)).2.1;have h2:=zPx (zB0 h.1).en.ln;rw[zBa]at h2;have h3:=(zB0 h.1).len;simp only[List.length_nil]at h1;show(stF 25 [] (ents l)).1.length≤102400;omega
 · simp
theorem zIt{l:List Pr}(h:zAl l=0):rightB (zAf l).1 ((zAf l).2.map ofSt)=true:=by
 by_cases hl:l=[]
 · subst hl
   rfl
 have hG:=zCd h hl;have hD:=zB0 h;have hM:zAf l=(least (ents l),(stF 25 [] (ents l)).1):=by rw[zAf,if_pos ⟨h,hl⟩]
 obtain⟨D,M⟩:=zCf 25 [] [] (ents l) Inv.nil hG;obtain⟨e1,e2⟩:=zMx 25 [] [] (ents l) Inv.nil hG;rw[hM];simp only;have hI:=M.inv;have hne:=zLr hl;obtain⟨z0,hz0,hz0w⟩:=zBz hne;have hw0:=hD.en.wt z0 hz0;rw[hz0w]at hw0;have hsub:∀R∈D,Sub (ents l) R:=fun R hR=>(M.sub R hR).resolve_left (fun h=>by cases h)
 have hR:Rests (least (ents l)) D:=by
  have hb:∀R∈D,∃B:List En,R=zAd B∧B.length≤(ents l).length∧∀e∈B,∃x∈ents l,e.2=x.2∧e.1.length≤x.1.length:=fun R hR=>by
   obtain⟨xs,n,hx,k,hk,rfl⟩:=zKq (hsub R hR) hD.rise hne;exact⟨_,rfl,zE0 _ _,fun e he=>zEz _ _ _ he⟩
  refine⟨fun R hR=>(hI.lv R hR).1,fun R hR e he=>?_,fun R hR e he=>?_,fun R hR=>?_,fun R hR e he=>?_,fun R hR=>zMq (hsub R hR) (zNr h),hw0.1,hw0.2⟩
  · have:=zCb he
    rw[(hI.lv R hR).2]at this;exact this
  · obtain⟨B,rfl,_,h3⟩:=hb R hR
    obtain⟨x,hx,rfl⟩:=List.mem_map.1 he;obtain⟨y,hy,_,h5⟩:=h3 x hx;have:=hD.en.ln y hy;simp only;omega
  · obtain⟨B,rfl,h2,_⟩:=hb R hR
    (have h3:(zAd B).length=B.length:=by simp[zAd,zAi]);(have h4:(ents l).length=l.length:=by simp[ents]);have:=hD.len;omega
  · obtain⟨B,rfl,_,h3⟩:=hb R hR
    obtain⟨x,hx,rfl⟩:=List.mem_map.1 he;obtain⟨y,hy,h4,_⟩:=h3 x hx;(have hB:B≠[]:=fun e=>by rw[e]at hx;cases hx);obtain⟨u,hu,hu2⟩:=zBz hB;obtain⟨v,hv,h5,_⟩:=h3 u hu;have h6:=zCb hv;have h7:=hD.en.wt y hy;simp only;omega
 have hrl:(refF 25 [] [] (ents l)).2=stF 25 [] (ents l):=e1;have hv:=zQv 25 [] [] (ents l) Inv.nil hG;rw[hrl]at hv;obtain⟨v1,v2,_,v4⟩:=hv.resolve_left (fun h=>by simp at h);generalize stF 25 [] (ents l)=r at *;obtain⟨b,nr⟩:=r;simp only at *;have hb0:b≠[]:=fun e=>by rw[e]at v1;simp at v1
 have hnum:numB (b.map ofSt)=true:=by
  unfold numB;have hnr:(b.map ofSt).length-1=nr:=by rw[List.length_map];omega
  have:=v4 b (List.prefix_refl _) ((b.map ofSt).length+25) (by omega);simp only[List.length_nil]at this;rw[hnr,this];rfl
 have hroot:((b.map ofSt).getD ((b.map ofSt).length-1) ⟨false,0,[]⟩).final=false:=by
  have hnr:(b.map ofSt).length-1=nr:=by rw[List.length_map];omega
  rw[hnr];obtain⟨s,hs⟩:∃s,b[nr]?=some s:=⟨b[nr]'(by omega),List.getElem?_eq_getElem _⟩;have hst:(b.map ofSt).getD nr ⟨false,0,[]⟩=ofSt s:=by rw[List.getD_eq_getElem?_getD,List.getElem?_map,hs];rfl
  rw[hst];obtain⟨q1,q2,q3⟩:=hI.row nr s hs;have hnum:=M.num;simp only at hnum;rw[hnum]at q1;obtain⟨g1,_⟩:=zLq hI.lv q3;rw[←Option.some.inj q1,zAd,zIj]at g1;simp only[ofSt];rw[←g1];obtain⟨e,r,he⟩:=List.exists_cons_of_ne_nil hne;rw[he];have:=hD.pos e (by rw[he];simp);obtain⟨x,n⟩:=e;cases x with
  |nil=>exact absurd rfl this
  |cons c t=>rfl
 have hnd:(b.map ofSt).Nodup:=by
  unfold List.Nodup;rw[List.pairwise_map,List.pairwise_iff_getElem];intro i j hi hj hij e;have h1:=(hI.row i _ (List.getElem?_eq_getElem hi)).1;have h2:=(hI.row j _ (List.getElem?_eq_getElem hj)).1;rw[ofSt_inj e]at h1;have hlt1:=(List.getElem?_eq_some_iff.1 h1).1;have hlt2:=(List.getElem?_eq_some_iff.1 h2).1;have:=zGq hI.nd hlt1 hlt2 (by rw[h1,h2]);omega
 have hbnd:bndB (least (ents l)) [] (b.map ofSt)=true:=by
  have:=zYg hI hR b.length (Nat.le_refl _);simpa using this
 have hform:=form_inv hI hR;have hmn:b.map ofSt≠[]:=by simpa using hb0
 unfold rightB;rw[if_neg hmn,hroot,hform,hbnd,hnum,decide_eq_true hnd,decide_eq_true hw0];rfl
end Pk
namespace Pk
open Go.Proofs.YtkdhdehobdfakaaGreatDoor.Nums Go.Proofs.YtkdhdehobdfakaaGreatDoor.Fm Go.Proofs.YtkdhdehobdfakaaGreatDoor
def ud(head:List Int)(sum:Int)(R:List En):List En:=R.map fun e=>(head++e.1,sum+e.2)
theorem zMh(head:List Int)(sum:Int)(R S:List En):ud head sum (R++S)=ud head sum R++ud head sum S:=List.map_append
theorem zHv(head:List Int)(sum:Int)(R:List En):(ud head sum R).length=R.length:=by simp[ud]
theorem ud_arc(head:List Int)(sum c o:Int)(R:List En):ud head sum ((zAi o R).map (pre c))=ud (head++[c]) (sum+o) R:=by
 simp only[ud,zAi,List.map_map];refine List.map_congr_left fun e _=>?_
 simp only[Function.comp,pre,List.append_assoc,List.singleton_append,Prod.mk.injEq,true_and];omega
def udA(D:List (List En))(head:List Int)(sum:Int)(l:List Arc):List En:=l.flatMap fun a=>ud (head++[a.label]) (sum+a.out) (D[a.to]?.getD [])
def udF(head:List Int)(sum:Int)(s:St):List En:=if s.final then [(head,sum+s.out)]else []
theorem udA_snoc(D:List (List En))(head:List Int)(sum:Int)(l:List Arc)(a:Arc):udA D head sum (l++[a])=udA D head sum l++ud (head++[a.label]) (sum+a.out) (D[a.to]?.getD []):=by simp[udA]
theorem zUg(D:List (List En))(head:List Int)(sum:Int):∀l:List Arc,ud head sum (flat (outs D l))=udA D head sum l
 |[]=>rfl
 |a::l=>by
  have e:flat (outs D (a::l))=(zAi a.out (D[a.to]?.getD [])).map (pre a.label)++flat (outs D l):=by simp[flat,outs]
  rw[e,zMh,ud_arc,zUg D head sum l];simp[udA]
theorem zQg(D:List (List En))(s:St)(head:List Int)(sum:Int):ud head sum (exp D s)=udF head sum s++udA D head sum s.arcs:=by
 rw[exp,zMh,zUg];congr 1;unfold fins udF ud;cases s.final<;>simp
theorem zLp(D:List (List En))(s:St):(exp D s).length=(if s.final then 1 else 0)+(s.arcs.map fun a=>(D[a.to]?.getD []).length).sum:=by
 have h:=congrArg List.length (zQg D s [] 0);rw[zHv,List.length_append]at h;rw[h];congr 1
 · unfold udF;cases s.final<;>rfl
 · unfold udA
   rw[List.length_flatMap];congr 1;exact List.map_congr_left fun a _=>zHv _ _ _
structure MW(l:List Pr)(base:Int)(b:List St)(D:List (List En)):Prop where
 inv:Inv D b
 rst:Rests base D
 ne:b≠[]
 root:D[b.length-1]?=some (zAd (ents l))
 top:ud [] base (zAd (ents l))=ents l
theorem mach_walk{l:List Pr}(h:zAl l=0)(hl:l≠[]):∃D,MW l (zAf l).1 (zAf l).2 D:=by
 have hg:=zCd h hl;obtain⟨D,M⟩:=zCf 25 [] [] (ents l) Inv.nil hg;obtain⟨D2,hI2,hR⟩:=zJ6 h hl;have e:=zLk M.inv hI2;subst e;have hrl:(stF 25 [] (ents l)).2+1=(stF 25 [] (ents l)).1.length:=zMw (f:=24) hg;have hM:zAf l=(least (ents l),(stF 25 [] (ents l)).1):=by rw[zAf,if_pos ⟨h,hl⟩]
 rw[hM];refine⟨D,M.inv,hR,fun e=>?_,?_,?_⟩
 · simp only at e
   rw[e]at hrl;simp at hrl
 · simp only
   rw[←hrl,Nat.add_sub_cancel];exact M.num
 · have:zAi (least (ents l)) (zAd (ents l))=ents l:=by rw[zDo,Int.sub_self,zCk]
   conv=>rhs;rw[←this]
   unfold ud zAi;(refine List.map_congr_left fun e _=>?_);simp only[List.nil_append,Prod.mk.injEq,true_and];omega
def prW(e:En):Pr:=(zAw e.1,e.2)
theorem zMj{x:Pr}(hx:∃xs,rs x.1.data.toList=some xs):zAw (zCx x).1=x.1:=by
 obtain⟨xs,hx⟩:=hx;obtain⟨h1,h2⟩:=zEo hx;have e:(zCx x).1=xs:=by rw[zCx,hx];rfl
 rw[e];have h1':allR xs=true:=h1;unfold zAw;rw[if_pos h1'];have h3:(xs.flatMap wrI).map (fun n=>UInt8.ofNat n.toNat)=x.1.data.toList:=by
  rw[←h2,List.map_flatMap];rfl
 unfold strOfNums;rw[h3]
theorem zVh{l:List Pr}(h:Wd l):(ents l).map prW=l:=by
 unfold ents;rw[List.map_map]
 conv=>rhs;rw[←List.map_id l]
 refine List.map_congr_left fun x hx=>?_
 obtain⟨xs,h1,_⟩:=h x hx;simp only[Function.comp,id];exact Prod.ext (zMj ⟨xs,h1⟩) rfl
structure Tells(base:Int)(head:List Int)(sum:Int)(R:List En):Prop where
 ln:∀e∈R,head.length+e.1.length≤24
 wt:∀e∈R,sum+e.2≤1048576
 lo:0≤sum
 hr:∀c∈head,zC8 c=true
theorem Tells.arc{base:Int}{D:List (List En)}{b:List St}(hI:Inv D b)(hR:Rests base D){i:Nat}{s:St}(hi:b[i]?=some s){head:List Int}{sum:Int}(h:Tells base head sum (exp D s)){a:Arc}(ha:a∈s.arcs):Tells base (head++[a.label]) (sum+a.out) (D[a.to]?.getD [])∧head.length<24∧sum+a.out≤1048576:=by
 obtain⟨e1,e2,e3⟩:=hI.row i s hi;have ht:=e3.to a ha;have hg:D[a.to]?.getD []=D[a.to]:=by rw[List.getElem?_eq_getElem ht];rfl
 obtain⟨f1,f2,f3,f4⟩:=zDl hI hR hi a ha;rw[hg];have hne:=hR.ne _ (List.getElem_mem ht);obtain⟨e0,he0⟩:=List.exists_mem_of_ne_nil _ hne;have key:∀e∈D[a.to],head.length+1+e.1.length≤24∧sum+a.out+e.2≤1048576:=fun e he=>by
  have hin:=arc_in ha ht he;have h1:=h.ln _ hin;have h2:=h.wt _ hin;simp only[List.length_cons]at h1 h2;omega
 have hk0:=key e0 he0;have hn0:=hR.nn _ (List.getElem_mem ht) e0 he0;have hlo:=h.lo;refine⟨⟨fun e he=>?_,fun e he=>(key e he).2,by omega,fun c hc=>?_⟩,by omega,by omega⟩
 · have:=(key e he).1
   simp only[List.length_append,List.length_singleton];omega
 · rcases List.mem_append.1 hc with hc|hc
   · exact h.hr c hc
   · rw[List.mem_singleton.1 hc];exact f4
theorem MW.tells{l:List Pr}{base:Int}{b:List St}{D:List (List En)}(h:MW l base b D):Tells base [] base (zAd (ents l)):=by
 have hm:=List.mem_of_getElem? h.root;refine⟨fun e he=>by simpa using h.rst.ln _ hm e he,fun e he=>?_,by have:=h.rst.lo;omega,fun c hc=>by cases hc⟩;have:=h.rst.wt _ hm e he;omega
theorem zHu{xs:List Int}(h:∀c∈xs,zC8 c=true):allR xs=true:=by
 unfold allR;refine List.all_eq_true.2 fun c hc=>?_
 have:=h c hc;unfold zC8 at this;simp only[Bool.and_eq_true]at this;exact this.1
end Pk
section
open Go.RowKit Nums Fm Pk
structure GRow(E k:Nat)(w:World)(v:Value)(xss:List (List Value)):Prop where
 ex:∃ad cap,v = .slice ad xss.length cap∧(0<xss.length→∃g off,ad=some ⟨g,off,none⟩∧g<E∧∀(i j:Nat) (x:List Value) (u:Value),xss[i]?=some x→x[j]?=some u→w.cell? ⟨g,off+i*k+j,none⟩=some u)
theorem GRow.below{E k:Nat}{w w':World}{v:Value}{xss:List (List Value)}(h:GRow E k w v xss)(hb:Below E w w'):GRow E k w' v xss:=by
 obtain⟨ad,cap,rfl,hc⟩:=h.ex;refine⟨ad,cap,rfl,fun h0=>?_⟩;obtain⟨g,off,rfl,hg,hx⟩:=hc h0;exact⟨g,off,rfl,hg,fun i j x u hi hj=>(hb.cell (p:=⟨g,off+i*k+j,none⟩) hg).trans (hx i j x u hi hj)⟩
theorem GRow.mono{E E' k:Nat}{w:World}{v:Value}{xss:List (List Value)}(h:GRow E k w v xss)(hE:E≤E'):GRow E' k w v xss:=by
 obtain⟨ad,cap,rfl,hc⟩:=h.ex;refine⟨ad,cap,rfl,fun h0=>?_⟩;obtain⟨g,off,rfl,hg,hx⟩:=hc h0;exact⟨g,off,rfl,Nat.lt_of_lt_of_le hg hE,hx⟩
theorem GRow.shape{E k:Nat}{w:World}{v:Value}{xss:List (List Value)}(h:GRow E k w v xss):∃ad cap,v = .slice ad xss.length cap:=by
 obtain⟨ad,cap,rfl,_⟩:=h.ex;exact⟨ad,cap,rfl⟩
theorem GOwn.reads{T:TypeId}{k B:Nat}{w:World}{v:Value}{xss:List (List Value)}(h:GOwn T k B w v xss):GRow w.heap.size k w v xss:=by
 obtain⟨ad,cap,hv,_⟩:=h.shape;refine⟨ad,cap,hv,fun h0=>?_⟩;obtain⟨g,c2,hv2,hg,_,_,hc⟩:=h.cell h0;rw[hv]at hv2;simp only[Value.slice.injEq]at hv2;exact⟨g,0,hv2.1,hg,fun i j x u hi hj=>by rw[Nat.zero_add];exact hc i j x u hi hj⟩
def zBj(a:RArc):List Value:=[.int .i32 a.label,.int .i64 a.out,.int .i64 a.to]
def OkRA(a:RArc):Prop:=zIy a.label∧zB1 a.out∧zB1 a.to
structure ArcsAt(E:Nat)(w:World)(va:Value)(l:List RArc):Prop where
 row:GRow E 3 w va (l.map zBj)
 ok:∀a∈l,OkRA a
 len:l.length≤9223372036854775807
theorem ArcsAt.below{E:Nat}{w w':World}{va:Value}{l:List RArc}(h:ArcsAt E w va l)(hb:Below E w w'):ArcsAt E w' va l:=⟨h.row.below hb,h.ok,h.len⟩
theorem ArcsAt.shape{E:Nat}{w:World}{va:Value}{l:List RArc}(h:ArcsAt E w va l):∃ad cap,va = .slice ad l.length cap:=by
 obtain⟨ad,cap,h1⟩:=h.row.shape;exact⟨ad,cap,by rw[h1,List.length_map]⟩
theorem ArcsAt.at{E:Nat}{w:World}{ad:Option Addr}{n cap:Nat}{l:List RArc}(h:ArcsAt E w (.slice ad n cap) l){k:Nat}{a:RArc}(ha:l[k]?=some a):∃g off,ad=some ⟨g,off,none⟩∧g<E∧w.cell? ⟨g,off+k*3,none⟩=some (.int .i32 a.label)∧w.cell? ⟨g,off+k*3+1,none⟩=some (.int .i64 a.out)∧w.cell? ⟨g,off+k*3+2,none⟩=some (.int .i64 a.to):=by
 obtain⟨ad',cap',hv,hc⟩:=h.row.ex;simp only[Value.slice.injEq]at hv;have hk:=(List.getElem?_eq_some_iff.1 ha).1;obtain⟨g,off,rfl,hg,hx⟩:=hc (by rw[List.length_map];omega);have e:(l.map zBj)[k]?=some (zBj a):=by rw[List.getElem?_map,ha];rfl
 exact⟨g,off,hv.1,hg,hx k 0 _ _ e rfl,hx k 1 _ _ e rfl,hx k 2 _ _ e rfl⟩
structure StsAt(E:Nat)(w:World)(vs:Value)(m:List RSt):Prop where
 ex:∃xss,GRow E 3 w vs xss∧xss.length=m.length∧∀(i:Nat) (s:RSt),m[i]?=some s→∃va,xss[i]?=some [.bool s.final,.int .i64 s.out,va]∧ArcsAt E w va s.arcs
 ok:∀s∈m,zB1 s.out
 len:m.length≤9223372036854775807
theorem StsAt.below{E:Nat}{w w':World}{vs:Value}{m:List RSt}(h:StsAt E w vs m)(hb:Below E w w'):StsAt E w' vs m:=by
 obtain⟨xss,h1,h2,h3⟩:=h.ex;refine⟨⟨xss,h1.below hb,h2,fun i s hi=>?_⟩,h.ok,h.len⟩;obtain⟨va,e1,e2⟩:=h3 i s hi;exact⟨va,e1,e2.below hb⟩
theorem StsAt.shape{E:Nat}{w:World}{vs:Value}{m:List RSt}(h:StsAt E w vs m):∃ad cap,vs = .slice ad m.length cap:=by
 obtain⟨xss,h1,h2,_⟩:=h.ex;obtain⟨ad,cap,e⟩:=h1.shape;exact⟨ad,cap,by rw[e,h2]⟩
theorem StsAt.at{E:Nat}{w:World}{ad:Option Addr}{n cap:Nat}{m:List RSt}(h:StsAt E w (.slice ad n cap) m){k:Nat}{s:RSt}(hs:m[k]?=some s):∃g off va,ad=some ⟨g,off,none⟩∧g<E∧w.cell? ⟨g,off+k*3,none⟩=some (.bool s.final)∧w.cell? ⟨g,off+k*3+1,none⟩=some (.int .i64 s.out)∧w.cell? ⟨g,off+k*3+2,none⟩=some va∧ArcsAt E w va s.arcs:=by
 obtain⟨xss,h1,h2,h3⟩:=h.ex;obtain⟨ad',cap',hv,hc⟩:=h1.ex;simp only[Value.slice.injEq]at hv;have hk:=(List.getElem?_eq_some_iff.1 hs).1;obtain⟨g,off,rfl,hg,hx⟩:=hc (by omega);obtain⟨va,e1,e2⟩:=h3 k s hs;exact⟨g,off,va,hv.1,hg,hx k 0 _ _ e1 rfl,hx k 1 _ _ e1 rfl,hx k 2 _ _ e1 rfl,e2⟩
def zE4(c:Nat):List Value:=[.int .i64 (c:Int)]
theorem rtyN:RTy 3 115 1 8:=⟨by kernel_rfl,⟨.int .i64 0,by kernel_rfl,rfl⟩,by decide,by decide⟩
structure WkAt(E:Nat)(w:World)(wb:Nat)(base:Int)(m:List RSt)(cs:List Nat):Prop where
 lt:wb<E
 ex:∃vs vw,w.heap[wb]?=some (.cells #[.int .i64 base,vs,vw] 118)∧StsAt E w vs m∧GRow E 1 w vw (cs.map zE4)
theorem WkAt.below{E:Nat}{w w':World}{wb:Nat}{base:Int}{m:List RSt}{cs:List Nat}(h:WkAt E w wb base m cs)(hb:Below E w w'):WkAt E w' wb base m cs:=by
 obtain⟨vs,vw,h1,h2,h3⟩:=h.ex;exact⟨h.lt,vs,vw,(hb.block wb h.lt).trans h1,h2.below hb,h3.below hb⟩
theorem WkAt.facts{E:Nat}{w:World}{wb:Nat}{base:Int}{m:List RSt}{cs:List Nat}(h:WkAt E w wb base m cs):∃sd sc wd wc,w.cell? ⟨wb,0,none⟩=some (.int .i64 base)∧w.cell? ⟨wb,1,none⟩=some (.slice sd m.length sc)∧w.cell? ⟨wb,2,none⟩=some (.slice wd cs.length wc)∧StsAt E w (.slice sd m.length sc) m∧GRow E 1 w (.slice wd cs.length wc) (cs.map zE4):=by
 obtain⟨vs,vw,h1,h2,h3⟩:=h.ex;obtain⟨sd,sc,rfl⟩:=h2.shape;obtain⟨wd,wc,rfl⟩:=h3.shape;rw[List.length_map]at h1 h3;exact⟨sd,sc,wd,wc,by simp[World.cell?,h1],by simp[World.cell?,h1],by simp[World.cell?,h1],h2,h3⟩
theorem GRow.num{E:Nat}{w:World}{ad:Option Addr}{n cap:Nat}{cs:List Nat}(h:GRow E 1 w (.slice ad n cap) (cs.map zE4)){k c:Nat}(hc:cs[k]?=some c):∃g off,ad=some ⟨g,off,none⟩∧g<E∧w.cell? ⟨g,off+k,none⟩=some (.int .i64 (c:Int)):=by
 obtain⟨ad',cap',hv,hx⟩:=h.ex;simp only[Value.slice.injEq]at hv;have hk:=(List.getElem?_eq_some_iff.1 hc).1;obtain⟨g,off,rfl,hg,hx⟩:=hx (by rw[List.length_map];omega);have e:(cs.map zE4)[k]?=some (zE4 c):=by rw[List.getElem?_map,hc];rfl
 have:=hx k 0 _ _ e rfl;rw[Nat.mul_one,Nat.add_zero]at this;exact⟨g,off,hv.1,hg,this⟩
theorem zHs(E:Nat)(w:World)(wb:Nat)(base:Int)(m:List RSt)(cs:List Nat)(h:WkAt E w wb base m cs):
 Calls Tryz.prog 61 #[.pointer (some ⟨wb,0,none⟩)] w fun e w'=>e = .returned (.int .i64 ((m.length:Int)-1))∧w'=w:=by
 obtain⟨sd,sc,wd,wc,c0,c1,c2,hS,_⟩:=h.facts;have hl:=hS.len;go_enter Tryz.func61,Tryz.ntmps61;go_wp2;go_ret;exact⟨by go_num,rfl⟩
theorem Base_any(E:Nat)(w:World)(wb:Nat)(base:Int)(m:List RSt)(cs:List Nat)(h:WkAt E w wb base m cs):
 Calls Tryz.prog 62 #[.pointer (some ⟨wb,0,none⟩)] w fun e w'=>e = .returned (.int .i64 base)∧w'=w:=by
 obtain⟨sd,sc,wd,wc,c0,c1,c2,hS,_⟩:=h.facts;go_enter Tryz.func62,Tryz.ntmps62;go_wp2;go_ret;exact⟨rfl,rfl⟩
theorem zVz{l:List RArc}{k:Nat}{a:RArc}(h:l[k]?=some a)(m:Int):minF m (l.take (k+1))=min (minF m (l.take k)) a.out:=by
 have:∀(x:List RArc) (m:Int),minF m (x++[a])=min (minF m x) a.out:=fun x=>by
  induction x with
  |nil=>intro m;rfl
  |cons y r ih=>intro m;exact ih _
 rw[List.take_add_one,h];exact this _ _
theorem zS1(E:Nat)(w:World)(s:RSt)(va:Value)(h:ArcsAt E w va s.arcs)(hE:E≤w.heap.size):
 Calls Tryz.prog 120 #[.agg #[.bool s.final,.int .i64 s.out,va]] w fun e w'=>e = .returned (.int .i64 (zG5 s))∧Below w.heap.size w w':=by
 obtain⟨ad,cap,rfl⟩:=h.shape;obtain⟨n,hn⟩:∃n,s.arcs.length=n:=⟨_,rfl⟩;have HN:Hid (s.arcs.length=n):=hn;have HR:Hid (ArcsAt E w (.slice ad s.arcs.length cap) s.arcs):=h;have hl:=h.len;rw[hn]at HR hl ⊢;clear h hn;obtain⟨M,hM⟩:∃M:Int,M=if s.final then s.out else 9223372036854775807:=⟨_,rfl⟩;have HM:Hid (minF M s.arcs=zG5 s):=by show _=_;rw[hM];rfl
 cases hf:s.final
 rotate_left
 focus
  rw[hf,if_pos rfl]at hM;subst hM;generalize s.out=M at *;clear hf;go_enter Tryz.func120,Tryz.ntmps120;go_wp2
 rotate_left
 focus
  rw[hf,if_neg (by decide)]at hM;subst hM;generalize s.out=so at *;clear hf;go_enter Tryz.func120,Tryz.ntmps120;go_wp2;obtain⟨M,hMM⟩:∃M:Int,M=9223372036854775807:=⟨_,rfl⟩;rw[←hMM]at HM ⊢;clear hMM
 all_goals
  go_loopg [3,5,13] n (fun gm s3 _ s13 wr=>∃(k:Nat),s13 = .int .i64 k∧k≤n∧n-k≤gm∧s3 = .int .i64 (minF M (s.arcs.take k))∧Hid (Below w.heap.size w wr))
  case atStart=>exact⟨0,rfl,Nat.zero_le _,by omega,by simp[minF],(Below.refl _ _).alloc (Nat.le_refl _) _⟩
  case round=>
   obtain⟨k,rfl,hk,hgm,rfl,HB⟩:=hrel;by_cases hlt:k<n
   · have hltz:(k:Int)<(n:Int):=by omega
     obtain⟨x,hx⟩:∃x,s.arcs[k]?=some x:=⟨s.arcs[k]'(by have:=HN.out;omega),List.getElem?_eq_getElem _⟩;obtain⟨g,off,rfl,hg,c0,c1,c2⟩:=(HR.out.below (HB.out.mono hE)).at hx;have HS:Hid (minF M (s.arcs.take (k+1))=min (minF M (s.arcs.take k)) x.out):=zVz hx _;(have HB2:Hid (∀o,Below w.heap.size w (wr.alloc o)):=fun o=>HB.out.alloc HB.out.size o);clear hx;generalize minF M (s.arcs.take k)=m at *;go_wp2
     all_goals
      go_roundg (n-(k+1));(case measure=>omega);case rel=>exact⟨k+1,by go_num,by omega,Nat.le_refl _,by(first|(rw[HS.out];done)|(rw[HS.out];congr 1;omega)),HB2.out _⟩
   · have hltz:¬(k:Int)<(n:Int):=by omega
     (have HE:Hid (minF M (s.arcs.take k)=zG5 s):=by show _=_;rw[List.take_of_length_le (by have:=HN.out;omega)];exact HM.out);go_wp2;go_ret;exact⟨by rw[HE.out];rfl,HB.out⟩
theorem word_one(r:Int):(allR [r]&&zAq (zAw [r]).data.toList)=zC8 r:=by
 unfold allR zC8;simp only[List.all_cons,List.all_nil,Bool.and_true];cases hr:isR r with
 |false=>rfl
 |true=>
  have h1:allR [r]=true:=by simp[allR,hr]
  have h2:(zAw [r]).data.toList=[r].flatMap wr:=by
   unfold zAw;rw[if_pos h1];show((([r].flatMap wrI).map (fun n=>UInt8.ofNat n.toNat)).toArray).toList=_;rw[List.toList_toArray];exact zTg [r]
  rw[h2,Bool.true_and,Bool.true_and];have h3:=rs_text (xs:=[r]) (by simp[hr]);unfold zAq;rw[h3];simp
theorem zH6(w:World)(r:Int)(hT:Tabs w):
 Calls Tryz.prog 144 #[.int .i32 r] w fun e w'=>e = .returned (.bool (zC8 r))∧Below w.heap.size w w':=by
 have hb0:∀o,Below w.heap.size w (w.alloc o):=fun o=>(Below.refl _ w).alloc (Nat.le_refl _) o
 have HT:Hid (∀o,Tabs (w.alloc o)):=fun o=>hT.below (hb0 o)
 have HB:Hid (∀o,Below w.heap.size w (w.alloc o)):=hb0;have HW:Hid ((allR [r]&&zAq (zAw [r]).data.toList)=zC8 r):=word_one r;have HSZ:Hid ((zAw [r]).size≤9223372036854775807):=by
  show _≤_;have h1:=zLn [r];unfold zAw
  split
  · show(List.toArray _).size≤_
    simp only[List.size_toArray,List.length_map];simp only[List.length_cons,List.length_nil]at h1;omega
  · decide
 have HROW:Hid (∀T,Row (w.alloc (.cells #[.int .i32 r] T)) (.slice (some ⟨w.heap.size,0,none⟩) 1 1) [r]):=fun T=>by
  refine⟨_,1,rfl,fun _=>⟨_,0,rfl,fun i hi=>?_⟩⟩;have:i=0:=by simpa using hi
  subst this;simp
 have HTX:Hid (∀T,Calls Tryz.prog 131 #[.slice (some ⟨w.heap.size,0,none⟩) 1 1] (w.alloc (.cells #[.int .i32 r] T)) fun e w'=>e = .returned (.tuple #[.string (zAw [r]),.bool (allR [r])])∧Below w.heap.size w w'):=fun T=>by
  refine(zL1 _ [r] _ (HT.out _) (HROW.out T) (by simp)).mono ?_;rintro e w1 ⟨rfl,hb1⟩;exact⟨rfl,(HB.out _).trans (hb1.mono (HB.out (.cells #[.int .i32 r] T)).size)⟩
 have HWD:Hid (∀w1,Below w.heap.size w w1→Calls Tryz.prog 28 #[.string (zAw [r])] w1 fun e w'=>e = .returned (.bool (zAq (zAw [r]).data.toList))∧Below w.heap.size w w'):=fun w1 hb1=>by
  refine(zCa _ _ (hT.below hb1) HSZ.out).mono ?_;rintro e w2 ⟨rfl,q,rfl⟩;exact⟨rfl,belowN hb1 q⟩
 clear hT hb0 HSZ HROW HT HB;generalize allR [r]=A at *;generalize zAq (zAw [r]).data.toList=B at *;generalize zAw [r]=S at *;go_enter Tryz.func144,Tryz.ntmps144;cases A with
 |true=>
  go_wp2_with (first
   |(go_at_call 131;refine(HTX.out _).mono ?_;rintro e w1 ⟨rfl,hb1⟩;have HB1:Hid (Below w.heap.size w w1):=hb1;clear hb1)
   |(go_at_call 28;refine(HWD.out _ HB1.out).mono ?_;rintro e w2 ⟨rfl,hb2⟩))
  go_ret;exact⟨by rw[←HW.out];rfl,hb2⟩
 |false=>
  go_wp2_with (first
   |(go_at_call 131;refine(HTX.out _).mono ?_;rintro e w1 ⟨rfl,hb1⟩;have HB1:Hid (Below w.heap.size w w1):=hb1;clear hb1))
  go_ret;exact⟨by rw[←HW.out];rfl,HB1.out⟩
end
section
open Go.RowKit Nums Pm
def zE8(x:Pr):Bool:=zAq x.1.data.toList&&(decide (1≤x.2)&&decide (x.2≤1048576))
def zAu(p:Option Pr):List Pr→Bool
 |[]=>true
 |x::r=>zE8 x&&(zFs p x&&zAu (some x) r)
def zDy(l:List Pr):Bool:=decide (l.length≤4096)&&zAu none l
theorem zSv{l:List Pr}(h:¬l.length≤4096):zDy l=false:=by simp[zDy,h]
theorem zOy{l:List Pr}(h:l.length≤4096):zDy l=zAu (zA5 l 0) (l.drop 0):=by simp[zDy,h,zA5]
theorem zDc{l:List Pr}{k:Nat}{x:Pr}(hx:l[k]?=some x)(h:zE8 x=false):zAu (zA5 l k) (l.drop k)=false:=by rw[zCe l k x hx,zAu,h];rfl
theorem zU6{l:List Pr}{k:Nat}{x y:Pr}(hx:l[k+1]?=some x)(hy:l[k]?=some y)(h:zAa y.1 x.1=false):zAu (zA5 l (k+1)) (l.drop (k+1))=false:=by
 rw[zCe l (k+1) x hx,zAu,zA5,hy,zFs,h];simp
theorem zOx{l:List Pr}{x:Pr}(hx:l[0]?=some x)(h:zE8 x=true):zAu (zA5 l 0) (l.drop 0)=zAu (zA5 l 1) (l.drop 1):=by
 rw[zCe l 0 x hx,zAu,h,zA5,zA5,zFs,hx];rfl
theorem zSu{l:List Pr}{k:Nat}{x y:Pr}(hx:l[k+1]?=some x)(hy:l[k]?=some y)(h:zE8 x=true)(h2:zAa y.1 x.1=true):zAu (zA5 l (k+1)) (l.drop (k+1))=zAu (zA5 l (k+1+1)) (l.drop (k+1+1)):=by
 rw[zCe l (k+1) x hx,zAu,h,zA5,zA5,hy,zFs,hx,h2];rfl
theorem zU7{l:List Pr}{k:Nat}(h:l.length≤k):zAu (zA5 l k) (l.drop k)=true:=by rw[List.drop_eq_nil_of_le h];rfl
theorem zM4{x:Pr}(h:zAq x.1.data.toList=false):zE8 x=false:=by simp[zE8,h]
theorem zQ5{x:Pr}(h:x.2<1):zE8 x=false:=by simp[zE8];intro _ h2;omega
theorem zM5{x:Pr}(h:1048576<x.2):zE8 x=false:=by simp[zE8];omega
theorem zVn{x:Pr}(h:zAq x.1.data.toList=true)(h1:¬x.2<1)(h2:¬1048576<x.2):zE8 x=true:=by simp[zE8,h];omega
theorem zG4(w:World)(v:Value)(l:List Pr)(h:PRow w v l)(hl:l.length≤9223372036854775807)(hsm:Sm l):
 Calls Tryz.prog 10 #[v] w fun e w'=>e = .returned (.bool (zDy l))∧Below w.heap.size w w':=by
 obtain⟨ad,cap,rfl⟩:=h.form;have HR:Hid (PRow w (.slice ad l.length cap) l):=h;obtain⟨n,hn⟩:∃n,l.length=n:=⟨_,rfl⟩;have HN:Hid (l.length=n):=hn;have HS:Hid (Sm l):=hsm;rw[hn]at HR hl;obtain⟨F,hF⟩:∃F,zDy l=F:=⟨_,rfl⟩;have HF:Hid (zDy l=F):=hF;clear h hsm;rw[hn,hF];clear hn hF;by_cases hbig:4096<n
 · have hbz:(4096:Int)<(n:Int):=by omega
   (have HE:Hid (F=false):=by show _=_;rw[←HF.out];exact zSv (by have:=HN.out;omega));go_enter Tryz.func10,Tryz.ntmps10;go_wp2;go_ret;exact⟨by rw[HE.out];rfl,Below.refl _ _⟩
 have hbz:¬(4096:Int)<(n:Int):=by omega
 go_enter Tryz.func10,Tryz.ntmps10;go_wp2
 go_loopg [3,4] n (fun g s3 _ wr=>∃(k:Nat),s3 = .int .i64 k∧k≤n∧n-k≤g∧Hid (Below w.heap.size w wr)∧Hid (zAu (zA5 l k) (l.drop k)=F))
 case atStart=>exact⟨0,rfl,Nat.zero_le _,by omega,Below.refl _ _,by show _=_;rw[←HF.out];exact(zOy (by have:=HN.out;omega)).symm⟩
 case round=>
  obtain⟨k,rfl,hk,hg,HB,HK⟩:=hrel;by_cases hlt:k<n
  · have hltz:(k:Int)<(n:Int):=by omega
    obtain⟨x,hx⟩:∃x,l[k]?=some x:=⟨l[k]'(by have:=HN.out;omega),List.getElem?_eq_getElem _⟩;obtain⟨b,off,rfl,hb,hcell⟩:=(HR.out.below HB.out).at (by omega);obtain⟨c0,c1⟩:=hcell k x hx;have HX:Hid (l[k]?=some x):=hx;(have hw:=fun(W:World)=>zFi x.1 W (HS.out.at hx));by_cases hk0:k=0
    · have HF2:Hid (∀(W:World),Below wr.heap.size wr W→W.cell? ⟨b,off+k*2,none⟩=some (.string x.1)∧W.cell? ⟨b,off+k*2+1,none⟩=some (.int .i64 x.2)∧True∧Hid (Below w.heap.size w W)):=fun W e=>⟨(e.cell (p:=⟨b,off+k*2,none⟩) hb).trans c0,(e.cell (p:=⟨b,off+k*2+1,none⟩) hb).trans c1,trivial,HB.out.trans (e.mono HB.out.size)⟩
      have hgd:decide (0<k)=false:=decide_eq_false (by omega);(have hk0z:¬(0:Int)<(k:Int):=by omega);cases hwd:zAq x.1.data.toList
      · have HE:Hid (F=false):=by show _=_;rw[←HK.out];exact zDc hx (zM4 hwd)
        rw[hwd]at hw;clear hcell hx hwd hk0;go_wp2_with (go_at_call 22;refine(hw _).mono ?_;rintro e w2 ⟨rfl,hq⟩;obtain⟨q0,q1,q2,HBq⟩:=HF2.out _ hq;clear hq);go_ret;exact⟨by rw[HE.out];rfl,HBq.out⟩
      · rw[hwd]at hw
        by_cases hlo:x.2<1
        · have HE:Hid (F=false):=by show _=_;rw[←HK.out];exact zDc hx (zQ5 hlo)
          clear hcell hx hwd hk0;go_wp2_with (go_at_call 22;refine(hw _).mono ?_;rintro e w2 ⟨rfl,hq⟩;obtain⟨q0,q1,q2,HBq⟩:=HF2.out _ hq;clear hq);go_ret;exact⟨by rw[HE.out];rfl,HBq.out⟩
        · by_cases hhi:1048576<x.2
          · have HE:Hid (F=false):=by show _=_;rw[←HK.out];exact zDc hx (zM5 hhi)
            clear hcell hx hwd hk0;go_wp2_with (go_at_call 22;refine(hw _).mono ?_;rintro e w2 ⟨rfl,hq⟩;obtain⟨q0,q1,q2,HBq⟩:=HF2.out _ hq;clear hq);go_ret;exact⟨by rw[HE.out];rfl,HBq.out⟩
          · have HK2:Hid (zAu (zA5 l (k+1)) (l.drop (k+1))=F):=by show _=_;rw[←HK.out];subst hk0;exact(zOx HX.out (zVn hwd hlo hhi)).symm
            clear hcell hx hwd hk0;go_wp2_with (go_at_call 22;refine(hw _).mono ?_;rintro e w2 ⟨rfl,hq⟩;obtain⟨q0,q1,q2,HBq⟩:=HF2.out _ hq;clear hq);go_quiet (fail);go_wp2;have HB2:Hid (Below w.heap.size w _):=belowN HBq.out nq;go_roundg (n-(k+1));(case measure=>omega);case rel=>exact⟨k+1,by go_num,by omega,Nat.le_refl _,HB2,HK2⟩
    · obtain⟨kp,hkp⟩:∃kp,kp+1=k:=⟨k-1,by omega⟩
      (have hk0z:(0:Int)<(k:Int):=by omega);have hgd:decide (0<k)=true:=decide_eq_true (by omega);(have ekp:(k:Int)-1=(kp:Int):=by omega);obtain⟨y,hy⟩:∃y,l[kp]?=some y:=⟨l[kp]'(by have:=HN.out;omega),List.getElem?_eq_getElem _⟩;obtain⟨d0,d1⟩:=hcell kp y hy;(have rkp:IntKind.i64.wrap (kp:Int)=(kp:Int):=by rw[IntKind.wrap_i64];omega);(have pkp:(0:Int)≤(kp:Int):=by omega);(have bkp:(kp:Int)<(n:Int):=by omega);(have tkp:(kp:Int).toNat=kp:=by omega);(have pk:(0:Int)≤(k:Int):=by omega);(have tk:(k:Int).toNat=k:=by omega);(have hls:=fun W=>zOa y.1 x.1 W (HS.out.at hy) (HS.out.at hx));(have HF2:Hid (∀(W:World),Below wr.heap.size wr W→W.cell? ⟨b,off+k*2,none⟩=some (.string x.1)∧W.cell? ⟨b,off+k*2+1,none⟩=some (.int .i64 x.2)∧W.cell? ⟨b,off+kp*2,none⟩=some (.string y.1)∧Hid (Below w.heap.size w W)):=fun W e=>⟨(e.cell (p:=⟨b,off+k*2,none⟩) hb).trans c0,(e.cell (p:=⟨b,off+k*2+1,none⟩) hb).trans c1,(e.cell (p:=⟨b,off+kp*2,none⟩) hb).trans d0,HB.out.trans (e.mono HB.out.size)⟩);cases hwd:zAq x.1.data.toList
      · have HE:Hid (F=false):=by show _=_;rw[←HK.out];exact zDc hx (zM4 hwd)
        rw[hwd]at hw;clear hcell hx hwd hk0 hkp hy;go_wp2_with (go_at_call 22;refine(hw _).mono ?_;rintro e w2 ⟨rfl,hq⟩;obtain⟨q0,q1,q2,HBq⟩:=HF2.out _ hq;clear hq);go_ret;exact⟨by rw[HE.out];rfl,HBq.out⟩
      · rw[hwd]at hw
        by_cases hlo:x.2<1
        · have HE:Hid (F=false):=by show _=_;rw[←HK.out];exact zDc hx (zQ5 hlo)
          clear hcell hx hwd hk0 hkp hy;go_wp2_with (go_at_call 22;refine(hw _).mono ?_;rintro e w2 ⟨rfl,hq⟩;obtain⟨q0,q1,q2,HBq⟩:=HF2.out _ hq;clear hq);go_ret;exact⟨by rw[HE.out];rfl,HBq.out⟩
        · by_cases hhi:1048576<x.2
          · have HE:Hid (F=false):=by show _=_;rw[←HK.out];exact zDc hx (zM5 hhi)
            clear hcell hx hwd hk0 hkp hy;go_wp2_with (go_at_call 22;refine(hw _).mono ?_;rintro e w2 ⟨rfl,hq⟩;obtain⟨q0,q1,q2,HBq⟩:=HF2.out _ hq;clear hq);go_ret;exact⟨by rw[HE.out];rfl,HBq.out⟩
          · have HOK:Hid (zE8 x=true):=zVn hwd hlo hhi
            cases hyx:zAa y.1 x.1
            · have HE:Hid (F=false):=by show _=_;rw[←HK.out,←hkp];exact zU6 (by rw[hkp];exact HX.out) hy hyx
              rw[hyx]at hls;clear hcell hx hkp hy hyx hk0 hwd;go_wp2_with (go_at_call 22;refine(hw _).mono ?_;rintro e w2 ⟨rfl,hq⟩;obtain⟨q0,q1,q2,HBq⟩:=HF2.out _ hq;clear hq);go_quiet (first|(go_at_call 23;refine Calls.quiet_of (hls _)));go_wp2;go_ret;exact⟨by rw[HE.out];rfl,belowN HBq.out nq⟩
            · have HK2:Hid (zAu (zA5 l (k+1)) (l.drop (k+1))=F):=by show _=_;rw[←HK.out,←hkp];exact(zSu (by rw[hkp];exact HX.out) hy HOK.out hyx).symm
              rw[hyx]at hls;clear hcell hx hkp hy hyx hk0 hwd;go_wp2_with (go_at_call 22;refine(hw _).mono ?_;rintro e w2 ⟨rfl,hq⟩;obtain⟨q0,q1,q2,HBq⟩:=HF2.out _ hq;clear hq);go_quiet (first|(go_at_call 23;refine Calls.quiet_of (hls _)));go_wp2;have HB2:Hid (Below w.heap.size w _):=belowN HBq.out nq;go_roundg (n-(k+1));(case measure=>omega);case rel=>exact⟨k+1,by go_num,by omega,Nat.le_refl _,HB2,HK2⟩
  · have hltz:¬(k:Int)<(n:Int):=by omega
    (have HE:Hid (F=true):=by show _=_;rw[←HK.out];exact zU7 (by have:=HN.out;omega));go_wp2;go_ret;exact⟨by rw[HE.out];rfl,HB.out⟩
end
section
open Go.RowKit
def zO8(l:List Oper):Bool:=l.all fun o=>match o.op with | .defer _=>false|_=>true
section
variable {F:Fence} {n:Nat} {P:Program} {md:Region.Mode} {ops:Array Oper} {Q:Exit→Act→World→Prop}
theorem zOw{row:String}{args:Array Value}{w:World}{R:Value→World→Prop}(h:Rows P row args w R):RowsIn Fence.wide n P row args w R:=
 fun c cs _=>let⟨v,w',r,s⟩:=h c cs;⟨v,w',r,stepsIn_wide.2 s⟩
theorem zUa{o:Oper}{a:Act}{w:World}{K:Act→World→Prop}(h:o.wp P a w K Q):o.wpIn Fence.wide n P a w K Q:=by
 unfold Oper.wp at h;unfold Oper.wpIn;refine⟨fun _ _=>trivial,?_⟩;show o.uponIn Fence.wide n P a K Q ((o.semAt none a.eval).run P w);rw[Oper.semAt_none];generalize (execOp a.eval o).run P w=r at *;cases r with
 |ok x w'=>
  cases x with
  |enter f args=>exact⟨fun h=>by simp[Fence.wide]at h,callsIn_wide.2 h⟩
  |row r args=>exact⟨fun h=>by simp[Fence.wide]at h,zOw h⟩
  |_=>first|exact h|exact h.elim
 |halt x w'=>cases x<;>first|exact h|exact h.elim
theorem zOj{i:Nat}{a:Act}{w:World}{K:Act→World→Prop}(hlo:¬LetsOut Q)(h:wpOp P ops Q i K a w):wpOpIn Fence.wide n P ops Q i K a w:=by
 unfold wpOp at h;unfold wpOpIn;cases ho:ops[i]? with
 |none=>simp only[ho]at h ⊢;exact h
 |some o=>
  simp only[ho]at h ⊢;by_cases hw:Region.wanted o (yielded ops a.tmps)=true
  · rw[if_pos hw]at h ⊢
    rcases h with h|h
    · exact zUa h
    · exact absurd h.2 hlo
  · rw[if_neg hw]at h ⊢
    exact⟨fun _ _=>trivial,h⟩
theorem zDz(hlo:¬LetsOut Q):∀(fuel:Nat) (listed:Array Bool) (a:Act) (w:World),wpAny P md ops Q fuel listed a w→wpAnyIn Fence.wide n P md ops Q fuel listed a w
 |0,_,_,_,h=>h
 |fuel+1,_,_,_,h=>⟨h.1,fun i hi=>wpOpIn_mono (fun a' w' h'=>zDz hlo fuel _ a' w' h') (zOj hlo (h.2 i hi))⟩
theorem zMd{o:Oper}{a:Act}{w:World}{K:Act→World→Prop}(lp:Nat)(hro:F.round=none)(hd:∀c,o.op ≠ .defer c)(h:o.wpIn F n P a w K Q):o.wpIn (F.inRound lp) n P a w K Q:=by
 unfold Oper.wpIn at *;refine⟨h.1,?_⟩;have h2:=h.2;rw[hro,Oper.semAt_none]at h2;rw[Oper.semAt_eq _ _ _ hd];generalize (execOp a.eval o).run P w=r at *;cases r with
 |ok x w'=>cases x<;>exact h2
 |halt x w'=>cases x<;>exact h2
theorem zCm(lp:Nat)(hro:F.round=none)(hd:zO8 ops.toList=true):∀(fuel:Nat) (listed:Array Bool) (a:Act) (w:World),wpAnyIn F n P md ops Q fuel listed a w→wpAnyIn (F.inRound lp) n P md ops Q fuel listed a w
 |0,_,_,_,h=>h
 |fuel+1,listed,a,w,h=>⟨h.1,fun i hi=>by
  refine wpOpIn_mono (fun a' w' h'=>zCm lp hro hd fuel _ a' w' h') ?_;have h2:=h.2 i hi;unfold wpOpIn at *;cases ho:ops[i]? with
  |none=>simp only[ho]at h2 ⊢;exact h2
  |some o=>
   simp only[ho]at h2 ⊢
   split
   · rename_i hw
     rw[if_pos hw]at h2;refine zMd lp hro (fun c hc=>?_) h2;have:=List.all_eq_true.1 hd o (by rw[←Array.mem_def];exact Array.mem_of_getElem? ho);rw[hc]at this;cases this
   · rename_i hw
     rw[if_neg hw]at h2;exact h2⟩
theorem zQt{S:World→Prop}{id lp:Nat}{a:Act}{w:World}(k:Nat)(hk:ops.size=k)(hm:P.follows .mixedOrders=true)(hd:zO8 ops.toList=true)(hlo:¬LetsOut Q)(hS:S w.drew)(h:S w.drew→wpAnyH P .any ops Q S k (Array.replicate k false) a w.drew):(Code.region id ops true).wpIn (Fence.wide.inRound lp) n P Q a w:=by
 subst hk;exact wpIn_region_any hm (zCm lp rfl hd _ _ _ _ (zDz hlo _ _ _ _ (wpAny_of_held _ _ _ _ (h hS))))
theorem zU3{S:World→Prop}{id lp:Nat}{a:Act}{w:World}(k z:Nat)(hk:ops.size=k)(hm:P.follows .mixedOrders=true)(hd:zO8 ops.toList=true)(hlo:¬LetsOut Q)(h:zBe P .any ops Q S z k (Array.replicate k false) a w.drew):(Code.region id ops true).wpIn (Fence.wide.inRound lp) n P Q a w:=by
 subst hk;exact wpIn_region_any hm (zCm lp rfl hd _ _ _ _ (zDz hlo _ _ _ _ (zGh _ _ _ _ h)))
end
theorem Upd.putR{W:World}(l:Nat)(o:Obj):Upd (fun k=>k=l) W (W.putObj l o):=
 ⟨rfl,rfl,rfl,by simp,fun k _ hk=>World.putObj_heap_other hk⟩
def roundB(I:Nat→World→Prop)(d k:Nat)(W:World):Exit→Act→World→Prop
 |.normal,_,W'=>(∃G:Nat→Prop,Upd G W W'∧¬G d∧¬G (d+1))∧I (k+1) W'
 |_,_,_=>False
def SeqB(gf:Nat)(lb:Array Value)(enc:Nat→Array Value)(N:Nat)(T:World→Prop):Prop:=
 ∀(yl:Nat) (J:Nat→World→Prop) (W:World),(∀k W,J k W→T W)→(∀k W,k<N→J k W→YieldAt Fence.wide 0 Tryz.prog yl (enc k) W fun e W'=>e = .returned (.bool true)∧J (k+1) W')→J 0 W →
  Calls Tryz.prog gf (#[.func (.yield yl) #[] #[]]++lb) W fun e W'=>(∃v,e = .returned v)∧J N W'
theorem zUc{g:Operand}{ps:Array Tmp}{assign body:Code}{Q:Exit→Act→World→Prop}{a:Act}{w:World}{gf:Nat}{lb:Array Value}{enc:Nat→Array Value}{N:Nat}{T:World→Prop}
 (hg:a.eval g = .func (.func gf) #[] lb) (eg:∀args w,(callFunc gf args).run Tryz.prog w = .ok (.enter gf args) w) (hseq:SeqB gf lb enc N T) (hps:∀k,ps.size=(enc k).size)
 (I:Nat→World→Prop) (hT:∀k W,I k W→T W) (hI:∀k W W',I k W→Upd (fun j=>j=w.heap.size∨j=w.heap.size+1) W W'→I k W') (h0:I 0 w)
 (hround:∀l k W,k<N→I k W→w.heap.size+1<W.heap.size→assign.wpIn (Fence.wide.inRound l) 0 Tryz.prog (Exit.then (fun a1 W1=>Upd (fun _=>False) W W1∧∀W2,Upd (fun j=>j=w.heap.size+1) W1 W2→body.wpIn (Fence.wide.inRound l) 0 Tryz.prog (roundB I w.heap.size k W2) a1 W2) (fun _ _ _=>False)) { tmps:=(ps.zip (enc k)).foldl (fun t (p,v)=>t.setIfInBounds p v) a.tmps,defers:=[] } W)
 (hdone:∀W,I N W→W.heap[w.heap.size]?=some (.deferred (some []))→Q .normal { a with defers:={ target := .collected w.heap.size,args:=#[] }::a.defers } W):
 (Code.rangeFunc g ps assign body).wp Tryz.prog Q a w:=by
 refine(wpIn_wide (n:=0)).1 (wpIn_rangeFunc ?_);intro fn hfn;rw[Fence.wide_round];obtain⟨rec,hrec⟩:∃rec:LoopState→Option Code→Loop,rec=fun st pe=>{ state:=st,pending:=pe,fn,tmps:=a.tmps,params:=ps,assign,body,defers:=w.heap.size }:=⟨_,rfl⟩
 obtain⟨W1,hW1⟩:∃W1,(w.alloc (.deferred (some []))).alloc (.loop (rec .ready none))=W1:=⟨_,rfl⟩;have hL1:W1.heap[w.heap.size+1]?=some (.loop (rec .ready none)):=by
  rw[←hW1];have:=World.alloc_heap_new (w.alloc (.deferred (some []))) (.loop (rec .ready none));rwa [World.size_alloc]at this
 have hK1:W1.heap[w.heap.size]?=some (.deferred (some [])):=by
  rw[←hW1];exact(Below.heap_alloc _ _ _ (by simp)).trans (World.alloc_heap_new w _)
 have hb1:Below w.heap.size w W1:=by rw[←hW1];exact((Below.refl _ w).alloc (Nat.le_refl _) _).alloc (by simp) _
 let J:Nat→World→Prop:=fun k W=>W.heap[w.heap.size+1]?=some (.loop (rec .ready none))∧W.heap[w.heap.size]?=some (.deferred (some []))∧I k W
 refine⟨w.heap.size+1,[{ target := .collected w.heap.size,args:=#[] }],W1,{ target := .fn (.func gf) lb,args:=#[.func (.yield (w.heap.size+1)) #[] #[]] },W1,gf,
  #[.func (.yield (w.heap.size+1)) #[] #[]]++lb,W1,?_,?_,fun _ _=>trivial,?_,fun h=>by simp[Fence.wide]at h,?_⟩
 · rw[←hW1,hrec];exact run_enterLoop_outer _ _ _ _ _
 · simp only[resolve,hg]
   simp[go_sem]
 · simp[invoke,go_sem,eg]
 · refine callsIn_wide.2 ((hseq (w.heap.size+1) J W1 (fun k W h=>hT k W h.2.2) ?_ ⟨hL1,hK1,hI _ _ _ h0 (Upd.of_below hb1)⟩).mono ?_)
   · rintro k W hk ⟨hr,hd,hi⟩
     have hlt:w.heap.size+1<W.heap.size:=(Array.getElem?_eq_some_iff.1 hr).1;have hy:=run_yield (P:=Tryz.prog) (args:=enc k) hr (by rw[hrec];exact(hps k).symm);rw[hrec]at hy;refine⟨fn,_,assign,body,hy,roundIn_of_wpIn hfn (wpIn_mono (hround (w.heap.size+1) k W hk hi hlt) ?_)⟩;clear hy;intro e0 a0 Wa hp0;cases e0 with
     |exit _=>exact hp0.elim
     |goto _=>exact hp0.elim
     |ret=>exact hp0.elim
     |panic _=>exact hp0.elim
     |outgrown=>exact hp0.elim
     |normal=>
     obtain⟨hu0,hbody⟩:=hp0;have hra:Wa.heap[w.heap.size+1]?=some (.loop (rec .ready none)):=(hu0.block _ hlt id).trans hr;have hda:Wa.heap[w.heap.size]?=some (.deferred (some [])):=(hu0.block _ (by omega) id).trans hd;have hlta:w.heap.size+1<Wa.heap.size:=(Array.getElem?_eq_some_iff.1 hra).1;refine⟨_,run_beginRound hra (by rw[hrec]),?_⟩;have hl2:(Wa.putObj (w.heap.size+1) (.loop { rec .ready none with state := .busy })).heap[w.heap.size+1]?=some (.loop { rec .ready none with state := .busy }):=World.putObj_heap_same hlta;have hk2:(Wa.putObj (w.heap.size+1) (.loop { rec .ready none with state := .busy })).heap[w.heap.size]?=some (.deferred (some [])):=(World.putObj_heap_other (by omega)).trans hda;have hbody2:=hbody _ (Upd.putR (W:=Wa) (w.heap.size+1) (.loop { rec .ready none with state := .busy }));clear hbody;generalize (Wa.putObj (w.heap.size+1) (.loop { rec .ready none with state := .busy }))=Wb at hl2 hk2 hbody2;have hszb:w.heap.size+1<Wb.heap.size:=(Array.getElem?_eq_some_iff.1 hl2).1;refine wpIn_mono hbody2 ?_;rintro e a3 W3 hp;cases e with
     |normal=>
      obtain⟨⟨G,hu3,n2,n1⟩,hi3⟩:=hp;have hl3:=(hu3.block _ hszb n1).trans hl2;have hd3:=(hu3.block _ (by omega) n2).trans hk2;have he:=run_endRound (P:=Tryz.prog) none hl3;rw[hrec]at he;refine⟨_,_,he,rfl,?_,(World.putObj_heap_other (by omega)).trans hd3,hI _ _ _ hi3 ((Upd.putR _ _).mono fun k e => .inr e)⟩;rw[hrec];exact World.putObj_heap_same (Array.getElem?_eq_some_iff.1 hl3).1
     |ret=>exact hp.elim
     |exit id=>exact hp.elim
     |goto t=>exact hp.elim
     |panic ch=>exact hp.elim
     |outgrown=>exact hp.elim
   · rintro e W2 ⟨⟨v,rfl⟩,hr,hd,hi⟩
     refine⟨none,_,by have:=run_endLoop (P:=Tryz.prog) hr (by rw[hrec];simp);rw[hrec]at this;exact this,?_⟩;exact hdone _ (hI _ _ _ hi ((Upd.putR _ _).mono fun k e => .inr e)) ((World.putObj_heap_other (by omega)).trans hd)
end
namespace Fz
open Go.Proofs.YtkdhdehobdfakaaGreatDoor.Nums Go.Proofs.YtkdhdehobdfakaaGreatDoor.Fm Go.Proofs.YtkdhdehobdfakaaGreatDoor Go.Proofs.YtkdhdehobdfakaaGreatDoor.Pk Go.Proofs.YtkdhdehobdfakaaGreatDoor.Ed Go.Proofs.YtkdhdehobdfakaaGreatDoor.Lv
abbrev Mt:=ByteArray×Int×Int
def hit(xs:List Int)(d:Nat)(e:En):Option Mt:=if lv e.1 xs≤d then some (zAw e.1,e.2,(lv e.1 xs:Int))else none
def hits(xs:List Int)(d:Nat)(R:List En):List Mt:=R.filterMap (hit xs d)
theorem zCt(xs:List Int)(d:Nat)(R S:List En):hits xs d (R++S)=hits xs d R++hits xs d S:=List.filterMap_append
theorem hits_len(xs:List Int)(d:Nat)(R:List En):(hits xs d R).length≤R.length:=List.length_filterMap_le _ _
theorem zXu{xs:List Int}{d:Nat}{t:List Int}(hn:xs.length≤24)(h:zC5 xs.length d (rowL xs d t)=false):d<lv t xs:=by
 have h1:=(zIw hn).1 h xs.length (Nat.le_refl _);rw[zFr d t hn (Nat.le_refl _),rowF,List.take_length]at h1;omega
theorem zRy{xs:List Int}{d:Nat}(hn:xs.length≤24):∀(r t:List Int),zC5 xs.length d (rowL xs d t)=false→d<lv (t++r) xs
 |[],t,h=>by rw[List.append_nil];exact zXu hn h
 |c::r,t,h=>by
  have h2:=(zXt c hn h).1;rw[zQk d t c hn]at h2;have:=zRy hn r (t++[c]) h2;rw[List.append_assoc]at this;exact this
theorem zW7{xs:List Int}{d:Nat}(hn:xs.length≤24){t:List Int}(h:zC5 xs.length d (rowL xs d t)=false)(sum:Int)(R:List En):hits xs d (ud t sum R)=[]:=by
 unfold hits ud;rw[List.filterMap_map];refine List.filterMap_eq_nil_iff.2 fun e _=>?_
 simp only[Function.comp,hit];rw[if_neg (by have:=zRy hn e.1 t h;omega)]
structure It where
 to:Nat
 lab:Int
 out:Int
 head:List Int
 wt:Int
def itE(D:List (List En))(i:It):List En:=ud (i.head++[i.lab]) (i.wt+i.out) (D[i.to]?.getD [])
def stE(D:List (List En))(l:List It):List En:=l.reverse.flatMap (itE D)
def itOf(head:List Int)(wt:Int)(a:Arc):It:=⟨a.to,a.label,a.out,head,wt⟩
def live(xs:List Int)(d:Nat)(head:List Int)(a:Arc):Bool:=zC5 xs.length d (rowL xs d (head++[a.label]))
def push(xs:List Int)(d:Nat)(head:List Int)(wt:Int)(l:List Arc):List It:=(l.reverse.filter (live xs d head)).map (itOf head wt)
theorem zQn(D:List (List En))(l:List It)(i:It):stE D (l++[i])=itE D i++stE D l:=by
 unfold stE;rw[List.reverse_append,List.flatMap_append];simp
theorem zJm(D:List (List En))(l m:List It):stE D (l++m)=stE D m++stE D l:=by
 unfold stE;rw[List.reverse_append,List.flatMap_append]
theorem zQo(D:List (List En))(xs:List Int)(d:Nat)(head:List Int)(wt:Int)(l:List Arc):stE D (push xs d head wt l)=(l.filter (live xs d head)).flatMap fun a=>ud (head++[a.label]) (wt+a.out) (D[a.to]?.getD []):=by
 unfold stE push;rw[←List.map_reverse,←List.filter_reverse,List.reverse_reverse,List.flatMap_map];rfl
theorem zNd{xs:List Int}{d:Nat}(hn:xs.length≤24)(D:List (List En))(head:List Int)(wt:Int):∀l:List Arc,hits xs d ((l.filter (live xs d head)).flatMap fun a=>ud (head++[a.label]) (wt+a.out) (D[a.to]?.getD []))=hits xs d (udA D head wt l)
 |[]=>rfl
 |a::l=>by
  have ih:=zNd (d:=d) hn D head wt l;have e:udA D head wt (a::l)=ud (head++[a.label]) (wt+a.out) (D[a.to]?.getD [])++udA D head wt l:=by simp[udA]
  rw[e,zCt,←ih];cases h:live xs d head a with
  |true=>rw[List.filter_cons,if_pos h,List.flatMap_cons,zCt]
  |false=>
   rw[List.filter_cons,if_neg (by rw[h];simp),zW7 hn h,List.nil_append]
theorem zVe{xs:List Int}{d:Nat}(hn:xs.length≤24)(D:List (List En))(its:List It)(head:List Int)(wt:Int)(l:List Arc):hits xs d (stE D (its++push xs d head wt l))=hits xs d (udA D head wt l)++hits xs d (stE D its):=by
 rw[zJm,zCt,zQo,zNd hn]
theorem zQz(D:List (List En))(xs:List Int)(d:Nat)(head:List Int)(wt:Int):∀l:List Arc,(stE D (push xs d head wt l)).length≤(udA D head wt l).length
 |[]=>by simp[push,stE]
 |a::l=>by
  have ih:=zQz D xs d head wt l;have e:udA D head wt (a::l)=ud (head++[a.label]) (wt+a.out) (D[a.to]?.getD [])++udA D head wt l:=by simp[udA]
  rw[zQo]at ih ⊢;rw[e,List.length_append];cases h:live xs d head a with
  |true=>rw[List.filter_cons,if_pos h,List.flatMap_cons,List.length_append];omega
  |false=>rw[List.filter_cons,if_neg (by rw[h];simp)];omega
def wgt(R:List En):Nat:=(R.map fun e=>e.1.length+1).sum
def itM(D:List (List En))(i:It):Nat:=wgt (D[i.to]?.getD [])
def stM(D:List (List En))(l:List It):Nat:=(l.map (itM D)).sum
theorem zJi(R S:List En):wgt (R++S)=wgt R+wgt S:=by simp[wgt]
theorem zUf(c o:Int):∀R:List En,wgt ((zAi o R).map (pre c))=wgt R+R.length
 |[]=>rfl
 |e::R=>by
  have ih:=zUf c o R;have e1:(zAi o (e::R)).map (pre c)=pre c (e.1,e.2+o)::(zAi o R).map (pre c):=rfl;have e2:∀(x:En) (L:List En),wgt (x::L)=x.1.length+1+wgt L:=fun x L=>by simp[wgt]
  rw[e1,e2,e2,ih];simp only[pre,List.length_cons];omega
theorem zQe(D:List (List En)):∀l:List Arc,wgt (flat (outs D l))=(l.map fun a=>wgt (D[a.to]?.getD [])).sum+(l.map fun a=>(D[a.to]?.getD []).length).sum
 |[]=>rfl
 |a::l=>by
  have e:flat (outs D (a::l))=(zAi a.out (D[a.to]?.getD [])).map (pre a.label)++flat (outs D l):=by simp[flat,outs]
  rw[e,zJi,zUf,zQe D l];simp only[List.map_cons,List.sum_cons];omega
theorem wgt_exp(D:List (List En))(s:St):wgt (exp D s)=(s.arcs.map fun a=>wgt (D[a.to]?.getD [])).sum+(exp D s).length:=by
 rw[zLp,exp,zJi,zQe];have:wgt (fins s)=if s.final then 1 else 0:=by unfold fins;cases s.final<;>rfl
 rw[this];omega
theorem zJl(D:List (List En))(l m:List It):stM D (l++m)=stM D l+stM D m:=by simp[stM]
theorem zFl(f:Arc→Nat)(p:Arc→Bool):∀l:List Arc,((l.filter p).map f).sum≤(l.map f).sum
 |[]=>by simp
 |a::l=>by
  have:=zFl f p l;rw[List.filter_cons]
  split<;>simp only[List.map_cons,List.sum_cons]<;>omega
theorem zVd{D:List (List En)}{b:List St}(hI:Fm.Inv D b){i:Nat}{s:St}(hi:b[i]?=some s)(xs:List Int)(d:Nat)(head:List Int)(wt:Int):stM D (push xs d head wt s.arcs)<wgt (D[i]?.getD []):=by
 obtain⟨h1,_,_⟩:=hI.row i s hi;have hne:=(hI.lv (exp D s) (List.mem_of_getElem? h1)).1;have hp:=List.length_pos_iff.2 hne;rw[h1,Option.getD_some,wgt_exp];have e:stM D (push xs d head wt s.arcs)=((s.arcs.reverse.filter (live xs d head)).map fun a=>wgt (D[a.to]?.getD [])).sum:=by
  unfold stM push;rw[List.map_map];rfl
 have h2:=zFl (fun a=>wgt (D[a.to]?.getD [])) (live xs d head) s.arcs.reverse;have h3:(s.arcs.reverse.map fun a=>wgt (D[a.to]?.getD [])).sum=(s.arcs.map fun a=>wgt (D[a.to]?.getD [])).sum:=by
  rw[List.map_reverse,List.sum_reverse]
 rw[h3]at h2;rw[e];omega
theorem zQm{D:List (List En)}(hlv:∀R∈D,R≠[]):∀{l:List It},(∀i∈l,i.to<D.length)→l.length≤(stE D l).length
 |[],_=>by simp
 |i::l,h=>by
  have ih:=zQm hlv (l:=l) fun j hj=>h j (by simp[hj])
  have e:stE D (i::l)=stE D l++itE D i:=by simp[stE]
  have hi:=h i (by simp);have:1≤(itE D i).length:=by
   unfold itE;rw[zHv,List.getElem?_eq_getElem hi,Option.getD_some];exact List.length_pos_iff.2 (hlv _ (List.getElem_mem hi))
  rw[e,List.length_append,List.length_cons];omega
theorem zSj{t:List Int}{r:Int}(h1:allR t=true)(h2:allR [r]=true):zAw (t++[r])=zAw t++zAw [r]:=by
 have h3:allR (t++[r])=true:=by
  unfold allR at h1 h2 ⊢;rw[List.all_append,h1,h2];rfl
 unfold zAw;rw[if_pos h1,if_pos h2,if_pos h3,List.flatMap_append];unfold strOfNums;rw[List.map_append];apply ByteArray.ext;simp
theorem zMl(t:List Int):(zAw t).size≤4*t.length:=by
 unfold zAw
 split
 · have:=zLn t
   unfold strOfNums;show((t.flatMap wrI).map _).toArray.size≤_;rw[List.size_toArray,List.length_map];exact this
 · exact Nat.zero_le _
theorem zJ2{α β:Type}{f g:α→Option β}:∀{l:List α},(∀x∈l,f x=g x)→l.filterMap f=l.filterMap g
 |[],_=>rfl
 |x::l,h=>by rw[List.filterMap_cons,List.filterMap_cons,h x (by simp),zJ2 (l:=l) fun y hy=>h y (by simp[hy])]
def zDh(xs:List Int)(d:Nat)(l:List Pr):List Mt:=l.filterMap fun p=>if lv (zCx p).1 xs≤d then some (p.1,p.2,(lv (zCx p).1 xs:Int))else none
theorem zW6{l:List Pr}(h:Wd l)(xs:List Int)(d:Nat):hits xs d (ents l)=zDh xs d l:=by
 unfold hits ents zDh;rw[List.filterMap_map];refine zJ2 fun p hp=>?_
 obtain⟨ys,hy,_⟩:=h p hp;simp only[Function.comp,hit];rw[zMj ⟨ys,hy⟩];rfl
end Fz
section
open Go.RowKit Nums Fm Pk Fz
attribute [local go_sem] Oper.semAt_some
def arcW(a:RArc):Value := .agg #[.int .i32 a.label,.int .i64 a.out,.int .i64 a.to]
def zArc:RArc:=⟨0,0,0⟩
structure BkAt(bx:Nat)(ad:Option Addr)(cap:Nat)(l:List RArc)(W:World):Prop where
 box:W.cell? ⟨bx,0,none⟩=some (.slice ad l.length cap)
 row:∃E,ArcsAt E W (.slice ad l.length cap) l
theorem zOi(ad:Option Addr)(n cap:Nat)(w:World):Calls Tryz.prog 93 #[.slice ad n cap] w fun e w'=>e = .returned (.func (.func 130) #[] #[.pointer (some ⟨w.heap.size,0,none⟩)])∧w'=w.alloc (.cells #[.slice ad n cap] 54):=by
 go_enter Tryz.func93,Tryz.ntmps93;go_wp2;go_ret;exact⟨rfl,rfl⟩
theorem back_seq(bx:Nat)(ad:Option Addr)(cap:Nat)(l:List RArc)(hl:l.length≤9223372036854775807):
 SeqB 130 #[.pointer (some ⟨bx,0,none⟩)] (fun k=>#[.int .i64 ((l.length-1-k:Nat):Int),arcW (l.getD (l.length-1-k) zArc)]) l.length (BkAt bx ad cap l):=by
 intro yl J W hT hy h0;have hb0:=(hT 0 W h0).box;obtain⟨n,hn⟩:∃n,l.length=n:=⟨_,rfl⟩;have HT:Hid (∀k W,J k W→BkAt bx ad cap l W):=hT;have HY:Hid (∀k W,k<n→J k W→YieldAt Fence.wide 0 Tryz.prog yl #[.int .i64 ((n-1-k:Nat):Int),arcW (l.getD (n-1-k) zArc)] W fun e W'=>e = .returned (.bool true)∧J (k+1) W'):=by
  have:=hy;rw[hn]at this;exact this
 have HN:Hid (l.length=n):=hn;rw[hn]at hb0 hl ⊢;clear hT hy hn;have hdd:∀k:Nat,(Fence.wide.depth.isSome=true→1≤k):=fun k h=>by simp[Fence.wide]at h
 refine(callsIn_wide (n:=1)).1 ?_;refine callsIn_of_wp Tryz.func130 rfl trivial ?_ rfl;simp only[Tryz.ntmps130,List.size_toArray,List.length_cons,List.length_nil,Nat.reduceAdd,Nat.reduceSub,Array.replicate_succ,Array.replicate_zero,List.push_toArray,List.append_toArray,List.nil_append,List.cons_append];have hw1:IntKind.i64.wrap ((n:Int)-1)=(n:Int)-1:=by rw[IntKind.wrap_i64];omega
 gi_wp2
 gi_loopw [3] (fun v wr=>∃k:Nat,k≤n∧v = .int .i64 ((n:Int)-1-(k:Int))∧J k wr) (fun v _=>(intOf v+1).toNat)
 case atStart=>exact⟨0,Nat.zero_le _,by first|rfl|(congr 1;omega)|simp,h0⟩
 case round=>
  obtain⟨k,hk,rfl,hJ⟩:=hrel;by_cases hkn:k<n
  · obtain⟨m,hm⟩:∃m,m=n-1-k:=⟨_,rfl⟩
    (have hmi:(n:Int)-1-(k:Int)=(m:Int):=by omega);have hB:=HT.out k wr hJ;have hbx:=hB.box;obtain⟨E,hrow⟩:=hB.row;rw[HN.out]at hbx hrow;obtain⟨x,hx⟩:∃x,l[m]?=some x:=⟨_,List.getElem?_eq_getElem (by have:=HN.out;omega)⟩;obtain⟨g,off,rfl,_,c0,c1,c2⟩:=hrow.at hx;obtain⟨fn,tmps,assign,body,hyy,hRr⟩:=HY.out k wr hkn hJ;rw[←hm,List.getD_eq_getElem?_getD,hx,Option.getD_some]at hyy;simp only[arcW]at hyy;rw[hmi];(have hm0:(m:Int)<(n:Int):=by omega);(have hw2:IntKind.i64.wrap ((m:Int)-1)=(m:Int)-1:=by rw[IntKind.wrap_i64];omega);(have HM:Hid (m+k+1=n):=by show m+k+1=n;omega);clear hB hrow hmi hm hx
    gi_wp2
    refine hRr.mono ?_;rintro e W3 ⟨rfl,hJ3⟩
    gi_wp2
    go_roundw
    (case rel=>exact⟨k+1,by omega,by have:=HM.out;congr 1;omega,hJ3⟩);case measure=>first|(simp[intOf];done)|(simp[intOf];omega)
  · have hkn2:k=n:=by omega
    (have hneg:(n:Int)-1-(k:Int)<0:=by omega);rw[hkn2]at hJ;(have hz:(n:Int)-1-(k:Int) = -1:=by omega);rw[hz];clear hneg hz hkn hk
    gi_wp2
    go_end0
    exact⟨⟨_,rfl⟩,hJ⟩
theorem zNk(t:List Int)(r:Int)(w:World)(hT:Tabs w)(h1:allR t=true)(h2:allR [r]=true)(ht:t.length≤24):Calls Tryz.prog 97 #[.string (zAw t),.int .i32 r] w fun e w'=>e = .returned (.string (zAw (t++[r])))∧Below w.heap.size w w':=by
 have HE:Hid (zAw (t++[r])=zAw t++zAw [r]):=zSj h1 h2;have hsz1:=zMl t;have hsz2:=zMl [r];obtain⟨tx,htx⟩:∃tx,zAw t=tx:=⟨_,rfl⟩;rw[htx]at HE hsz1 ⊢;have HC:Hid (∀T,Calls Tryz.prog 131 #[.slice (some ⟨w.heap.size,0,none⟩) 1 1] (w.alloc (.cells #[.int .i32 r] T)) fun e w'=>e = .returned (.tuple #[.string (zAw [r]),.bool (allR [r])])∧Below (w.alloc (.cells #[.int .i32 r] T)).heap.size (w.alloc (.cells #[.int .i32 r] T)) w'):=fun T=>by
  have hb:Below w.heap.size w (w.alloc (.cells #[.int .i32 r] T)):=(Below.refl _ w).alloc (Nat.le_refl _) _;refine zL1 _ [r] _ (hT.below hb) ⟨some ⟨w.heap.size,0,none⟩,1,rfl,fun _=>⟨w.heap.size,0,rfl,fun i hi=>?_⟩⟩ (by simp);have:i=0:=by simp at hi;omega
  subst this;simp
 obtain⟨tr,htr⟩:∃tr,zAw [r]=tr:=⟨_,rfl⟩;rw[htr]at HE HC hsz2;have hsz:¬9223372036854775807<tx.size+tr.size:=by simp at hsz2;omega
 clear htx htr h1 hsz1 hsz2 ht;go_enter Tryz.func97,Tryz.ntmps97;go_wp2_with (go_at_call 131;refine(HC.out _).mono ?_;rintro e w1 ⟨rfl,hb1⟩);go_ret;exact⟨by rw[HE.out];rfl,((Below.refl _ w).alloc (Nat.le_refl _) _).trans (hb1.mono (by simp))⟩
end
section
open Go.RowKit Pm
namespace Bt
abbrev Mt:=ByteArray×(Int×Int)
def btr(a b:Mt):Bool:=if a.2.2=b.2.2 then (if a.2.1=b.2.1 then zAa a.1 b.1 else decide (b.2.1<a.2.1))else decide (a.2.2<b.2.2)
theorem zDw:STO btr:=by
 refine⟨fun a=>?_,fun a b c h1 h2=>?_,fun a b h1 h2=>?_⟩
 · unfold btr;rw[if_pos rfl,if_pos rfl];exact lessB_sto.1 _
 · unfold btr at h1 h2 ⊢
   by_cases e1:a.2.2=b.2.2
   · rw[if_pos e1]at h1
     by_cases e2:b.2.2=c.2.2
     · rw[if_pos e2]at h2
       rw[if_pos (e1.trans e2)];by_cases f1:a.2.1=b.2.1
       · rw[if_pos f1]at h1
         by_cases f2:b.2.1=c.2.1
         · rw[if_pos f2]at h2
           rw[if_pos (f1.trans f2)];exact lessB_sto.2 _ _ _ h1 h2
         · rw[if_neg f2]at h2
           rw[if_neg (by rw[f1];exact f2),f1];exact h2
       · rw[if_neg f1]at h1
         by_cases f2:b.2.1=c.2.1
         · rw[if_neg (by rw[←f2];exact f1),←f2];exact h1
         · rw[if_neg f2]at h2
           simp only[decide_eq_true_eq]at h1 h2;rw[if_neg (by omega)];simp only[decide_eq_true_eq];omega
     · rw[if_neg e2]at h2
       rw[if_neg (by rw[e1];exact e2),e1];exact h2
   · rw[if_neg e1]at h1
     by_cases e2:b.2.2=c.2.2
     · rw[if_neg (by rw[←e2];exact e1),←e2];exact h1
     · rw[if_neg e2]at h2
       simp only[decide_eq_true_eq]at h1 h2;rw[if_neg (by omega)];simp only[decide_eq_true_eq];omega
 · unfold btr at h1 h2
   by_cases e1:a.2.2=b.2.2
   · rw[if_pos e1]at h1
     rw[if_pos e1.symm]at h2;by_cases f1:a.2.1=b.2.1
     · rw[if_pos f1]at h1
       rw[if_pos f1.symm]at h2;have:=lessB_sto.3 _ _ h1 h2;exact Prod.ext this (Prod.ext f1 e1)
     · rw[if_neg f1]at h1
       rw[if_neg (fun e=>f1 e.symm)]at h2;simp only[decide_eq_false_iff_not]at h1 h2;omega
   · rw[if_neg e1]at h1
     rw[if_neg (fun e=>e1 e.symm)]at h2;simp only[decide_eq_false_iff_not]at h1 h2;omega
theorem asy{a b:Mt}(h:btr a b=true):btr b a=false:=by
 cases e:btr b a
 · rfl
 · have:=zDw.2 _ _ _ h e;rw[zDw.1]at this;cases this
theorem zEb{a b c:Mt}(h1:btr a b=false)(h2:btr b c=false):btr a c=false:=by
 cases e:btr a c
 · rfl
 · cases f:btr b a
   · have:=zDw.3 _ _ h1 f;subst this;rw[h2]at e;cases e
   · have:=zDw.2 _ _ _ f e;rw[h2]at this;cases this
def el(h:List Mt)(i:Nat):Mt:=(h[i]?).getD (.empty,0,0)
theorem zXq{h:List Mt}{i:Nat}(hi:i<h.length):h[i]?=some (el h i):=by
 unfold el;rw[List.getElem?_eq_getElem hi];rfl
theorem el_set(h:List Mt)(i:Nat)(x:Mt)(k:Nat)(hi:i<h.length):el (h.set i x) k=if k=i then x else el h k:=by
 unfold el;rw[List.getElem?_set];by_cases e:k=i
 · subst e;rw[if_pos rfl,if_pos hi,if_pos rfl];rfl
 · rw[if_neg (fun e'=>e e'.symm),if_neg e]
def swp(h:List Mt)(i j:Nat):List Mt:=(h.set i (el h j)).set j (el h i)
theorem zGj(h:List Mt)(i j:Nat):(swp h i j).length=h.length:=by simp[swp]
theorem zNt(h:List Mt)(i j k:Nat)(hi:i<h.length)(hj:j<h.length):el (swp h i j) k=if k=j then el h i else if k=i then el h j else el h k:=by
 unfold swp;rw[el_set _ _ _ _ (by simpa using hj),el_set _ _ _ _ hi]
theorem zKp(h:List Mt)(i j:Nat)(hi:i<h.length)(hj:j<h.length):(swp h i j).Perm h:=by
 have e:swp h i j=(h.toArray.swap i j (by simpa using hi) (by simpa using hj)).toList:=by
  rw[Array.swap_def];simp only[Array.toList_set,swp,List.getElem_toArray];have e1:el h j=h[j]:=by unfold el;rw[List.getElem?_eq_getElem hj];rfl
  have e2:el h i=h[i]:=by unfold el;rw[List.getElem?_eq_getElem hi];rfl
  rw[e1,e2]
 rw[e];have:=Array.swap_perm (xs:=h.toArray) (i:=i) (j:=j) (by simpa using hi) (by simpa using hj);simpa[Array.perm_iff_toList_perm]using this
def pa(i:Nat):Nat:=(i-1)/2
def Hp(n:Nat)(h:List Mt):Prop:=∀i,0<i→i<n→btr (el h (pa i)) (el h i)=false
structure UpJ(n:Nat)(h:List Mt)(j:Nat):Prop where
 len:n=h.length
 lt:j<n
 inv:∀i,0<i→i<n→i≠j→btr (el h (pa i)) (el h i)=false
 gra:∀c,0<c→c<n→pa c=j→0<j→btr (el h (pa j)) (el h c)=false
theorem UpJ.step{n:Nat}{h:List Mt}{j:Nat}(J:UpJ n h j)(h0:0<j)(hb:btr (el h (pa j)) (el h j)=true):UpJ n (swp h (pa j) j) (pa j):=by
 have hl:=J.len;have hj:=J.lt;have hpj:pa j<j:=by unfold pa;omega
 have S:=fun k=>zNt h (pa j) j k (by omega) (by omega)
 refine⟨by rw[zGj];exact hl,by omega,fun k k0 kn kne=>?_,fun c c0 cn cp p0=>?_⟩
 · have hpk:pa k<k:=by unfold pa;omega
   rw[S k,S (pa k)];by_cases e1:k=j
   · subst e1
     rw[if_pos rfl,if_neg (by omega),if_pos rfl];exact asy hb
   · rw[if_neg e1]
     rw[if_neg kne];by_cases e2:pa k=j
     · rw[if_pos e2]
       exact J.gra k k0 kn e2 h0
     · rw[if_neg e2]
       by_cases e3:pa k=pa j
       · rw[if_pos e3]
         have h1:=J.inv k k0 kn e1;rw[e3]at h1;cases e:btr (el h j) (el h k)
         · rfl
         · have:=zDw.2 _ _ _ hb e;rw[h1]at this;cases this
       · rw[if_neg e3]
         exact J.inv k k0 kn e1
 · have hpp:pa (pa j)<pa j:=by unfold pa at *;omega
   rw[S c,S (pa (pa j)),if_neg (by omega),if_neg (by omega)];have h1:=J.inv (pa j) p0 (by omega) (by omega);by_cases e1:c=j
   · rw[if_pos e1];exact h1
   · rw[if_neg e1,if_neg (by intro e;rw[e]at cp;omega)]
     have h2:=J.inv c c0 cn e1;rw[cp]at h2;exact zEb h1 h2
theorem UpJ.stop{n:Nat}{h:List Mt}{j:Nat}(J:UpJ n h j)(hb:j=0∨btr (el h (pa j)) (el h j)=false):Hp n h:=by
 intro i i0 hi;by_cases e:i=j
 · subst e
   rcases hb with e|hb
   · omega
   · exact hb
 · exact J.inv i i0 hi e
theorem UpJ.start{h:List Mt}{x:Mt}(H:Hp h.length h):UpJ (h.length+1) (h++[x]) h.length:=by
 have E:∀k,k<h.length→el (h++[x]) k=el h k:=fun k hk=>by unfold el;rw[List.getElem?_append_left hk]
 refine⟨by simp,by omega,fun i i0 hi hne=>?_,fun c c0 cn cp p0=>?_⟩
 · rw[E i (by omega),E (pa i) (by unfold pa;omega)]
   exact H i i0 (by omega)
 · exfalso;unfold pa at cp;omega
structure DnJ(n:Nat)(h:List Mt)(i:Nat):Prop where
 len:n≤h.length
 inv:∀k,0<k→k<n→pa k≠i→btr (el h (pa k)) (el h k)=false
 gra:∀c,0<c→c<n→pa c=i→0<i→btr (el h (pa i)) (el h c)=false
structure Chi(n:Nat)(h:List Mt)(i j:Nat):Prop where
 lt:j<n
 of:pa j=i
 pos:0<j
 wor:∀c,0<c→c<n→pa c=i→btr (el h j) (el h c)=false
theorem zX6{n:Nat}{h:List Mt}{i:Nat}(h1:2*i+1<n)(h2:n≤2*i+2∨btr (el h (2*i+1)) (el h (2*i+2))=false):Chi n h i (2*i+1):=by
 refine⟨h1,by unfold pa;omega,by omega,fun c c0 cn cp=>?_⟩;have:c=2*i+1∨c=2*i+2:=by unfold pa at cp;omega
 rcases this with rfl|rfl
 · exact zDw.1 _
 · rcases h2 with h2|h2
   · omega
   · exact h2
theorem chi_two{n:Nat}{h:List Mt}{i:Nat}(h1:2*i+2<n)(h2:btr (el h (2*i+1)) (el h (2*i+2))=true):Chi n h i (2*i+2):=by
 refine⟨h1,by unfold pa;omega,by omega,fun c c0 cn cp=>?_⟩;have:c=2*i+1∨c=2*i+2:=by unfold pa at cp;omega
 rcases this with rfl|rfl
 · exact asy h2
 · exact zDw.1 _
theorem DnJ.step{n:Nat}{h:List Mt}{i j:Nat}(J:DnJ n h i)(C:Chi n h i j)(hb:btr (el h i) (el h j)=true):DnJ n (swp h i j) j:=by
 have hl:=J.len;have hj:=C.lt;have hij:i<j:=by have:=C.of;have:=C.pos;unfold pa at *;omega
 have S:=fun k=>zNt h i j k (by omega) (by omega)
 refine⟨by rw[zGj];exact hl,fun k k0 kn kne=>?_,fun c c0 cn cp p0=>?_⟩
 · have hpk:pa k<k:=by unfold pa;omega
   rw[S k,S (pa k),if_neg kne];by_cases e1:k=j
   · subst e1
     rw[if_pos C.of,if_pos rfl];exact asy hb
   · rw[if_neg e1]
     by_cases e2:k=i
     · subst e2
       rw[if_neg (by omega),if_pos rfl];exact J.gra j C.pos hj C.of k0
     · rw[if_neg e2]
       by_cases e3:pa k=i
       · rw[if_pos e3];exact C.wor k k0 kn e3
       · rw[if_neg e3];exact J.inv k k0 kn e3
 · have hjc:j<c:=by unfold pa at cp;omega
   rw[S c,S (pa j),C.of,if_neg (by omega),if_pos rfl,if_neg (by omega),if_neg (by omega)];have:=J.inv c c0 cn (by omega);rw[cp]at this;exact this
theorem DnJ.leaf{n:Nat}{h:List Mt}{i:Nat}(J:DnJ n h i)(hn:n≤2*i+1):Hp n h:=by
 intro k k0 kn;exact J.inv k k0 kn (by unfold pa;omega)
theorem DnJ.stop{n:Nat}{h:List Mt}{i j:Nat}(J:DnJ n h i)(C:Chi n h i j)(hb:btr (el h i) (el h j)=false):Hp n h:=by
 intro k k0 kn;by_cases e:pa k=i
 · rw[e];exact zEb hb (C.wor k k0 kn e)
 · exact J.inv k k0 kn e
theorem DnJ.start{n:Nat}{h:List Mt}(hl:h.length=n+1)(H:Hp (n+1) h):DnJ n (swp h 0 n) 0:=by
 have S:=fun k=>zNt h 0 n k (by omega) (by omega)
 refine⟨by rw[zGj];omega,fun k k0 kn kne=>?_,fun c c0 cn cp p0=>absurd p0 (Nat.lt_irrefl _)⟩;have hpk:pa k<k:=by unfold pa;omega
 rw[S k,S (pa k),if_neg (by omega),if_neg kne,if_neg (by omega),if_neg (by omega)];exact H k k0 (by omega)
theorem Hp.root{n:Nat}{h:List Mt}(H:Hp n h):∀k,k<n→btr (el h 0) (el h k)=false:=by
 intro k
 induction k using Nat.strongRecOn with
 |ind k ih=>
  intro hk;by_cases e:k=0
  · subst e;exact zDw.1 _
  · have hp:pa k<k:=by unfold pa;omega
    exact zEb (ih (pa k) hp (by omega)) (H k (by omega) hk)
theorem Hp.take{n:Nat}{h:List Mt}(H:Hp n h):Hp n (h.take n):=by
 intro i i0 hi;have E:∀k,k<n→el (h.take n) k=el h k:=fun k hk=>by unfold el;rw[List.getElem?_take,if_pos hk]
 rw[E i hi,E (pa i) (by unfold pa;omega)];exact H i i0 hi
theorem zSp{n:Nat}{h:List Mt}(hl:h.length=n+1):h=h.take n++[el h n]:=by
 apply List.ext_getElem?;intro k;by_cases hk:k<n
 · rw[List.getElem?_append_left (by rw[List.length_take];omega),List.getElem?_take,if_pos hk]
 · by_cases e:k=n
   · subst e
     rw[List.getElem?_append_right (by rw[List.length_take];omega),List.length_take,zXq (by omega)];simp[Nat.min_eq_left (by omega:k≤h.length)]
   · rw[List.getElem?_eq_none (by omega),List.getElem?_eq_none (by rw[List.length_append,List.length_take];simp;omega)]
theorem popped{n:Nat}{h h1:List Mt}(hl:h.length=n+1)(hp:h1.Perm (swp h 0 n))(hk:el h1 n=el (swp h 0 n) n):(el h 0::h1.take n).Perm h∧el h1 n=el h 0:=by
 have hl1:h1.length=n+1:=by rw[hp.length_eq,zGj,hl]
 have e0:el h1 n=el h 0:=by rw[hk,zNt h 0 n n (by omega) (by omega),if_pos rfl]
 refine⟨?_,e0⟩;have e1:=zSp hl1;rw[e0]at e1;have p1:(h1.take n++[el h 0]).Perm h:=by rw[←e1];exact hp.trans (zKp h 0 n (by omega) (by omega))
 exact(List.perm_append_singleton _ _).symm.trans p1
end Bt
namespace Bt
def ins(m:Mt):List Mt→List Mt
 |[]=>[m]
 |y::r=>if btr m y then m::y::r else y::ins m r
def Srt(l:List Mt):Prop:=l.Pairwise fun a b=>btr b a=false
theorem zHi(m:Mt):∀l:List Mt,(ins m l).Perm (m::l)
 |[] => .refl _
 |y::r=>by
  unfold ins
  split
  · exact .refl _
  · exact((zHi m r).cons y).trans (.swap _ _ _)
theorem ins_len(m:Mt)(l:List Mt):(ins m l).length=l.length+1:=(zHi m l).length_eq
theorem zWw(m:Mt):∀l:List Mt,Srt l→Srt (ins m l)
 |[],_=>List.pairwise_singleton _ _
 |y::r,h=>by
  have h':=List.pairwise_cons.1 h;unfold ins
  split
  · rename_i hb
    refine List.pairwise_cons.2 ⟨fun a ha=>?_,h⟩;rcases List.mem_cons.1 ha with rfl|ha
    · exact asy hb
    · exact zEb (h'.1 a ha) (asy hb)
  · rename_i hb
    refine List.pairwise_cons.2 ⟨fun a ha=>?_,zWw m r h'.2⟩;rcases List.mem_cons.1 ((zHi m r).mem_iff.1 ha)with rfl|ha
    · simpa using hb
    · exact h'.1 a ha
def stp(k:Nat)(o:List Mt)(m:Mt):List Mt:=(ins m o).take k
def bestF(k:Nat)(l:List Mt):List Mt:=l.foldl (stp k) []
theorem zTw(k:Nat)(l:List Mt)(m:Mt):bestF k (l++[m])=stp k (bestF k l) m:=by simp[bestF,List.foldl_append]
structure Kp(k:Nat)(out h:List Mt):Prop where
 hp:Hp h.length h
 perm:h.Perm out
 srt:Srt out
 len:out.length≤k
theorem Kp.nil(k:Nat):Kp k [] []:=⟨fun _ _ h=>by simp at h,.refl _,.nil,Nat.zero_le _⟩
theorem Kp.worst{k:Nat}{out h:List Mt}(K:Kp k out h)(h0:0<h.length):∃ini,out=ini++[el h 0]:=by
 have hne:out≠[]:=fun e=>by have:=K.perm.length_eq;rw[e,List.length_nil]at this;omega
 obtain⟨ini,z,rfl⟩:∃ini z,out=ini++[z]:=⟨out.dropLast,out.getLast hne,(List.dropLast_concat_getLast hne).symm⟩;refine⟨ini,?_⟩;have hz:z∈h:=K.perm.mem_iff.2 (by simp);obtain⟨i,hi,e⟩:=List.getElem_of_mem hz;have e1:el h i=z:=by unfold el;rw[List.getElem?_eq_getElem hi,e];rfl
 have h1:=K.hp.root i hi;rw[e1]at h1;have hm:el h 0∈ini++[z]:=K.perm.mem_iff.1 (List.mem_of_getElem? (zXq h0));rcases List.mem_append.1 hm with hm|hm
 · have h2:=(List.pairwise_append.1 K.srt).2.2 _ hm z (by simp)
   rw[zDw.3 _ _ h1 h2]
 · rw[List.mem_singleton.1 hm]
theorem stp_room{k:Nat}{out:List Mt}(m:Mt)(h:out.length<k):stp k out m=ins m out:=by
 unfold stp;exact List.take_of_length_le (by rw[ins_len];omega)
theorem zWz(m:Mt):∀l:List Mt,(∀y∈l,btr m y=false)→ins m l=l++[m]
 |[],_=>rfl
 |y::r,h=>by
  unfold ins;rw[h y (by simp),if_neg (by simp),zWz m r (fun z hz=>h z (by simp[hz]))];rfl
theorem zNg(m z:Mt)(hz:btr m z=true):∀l:List Mt,ins m (l++[z])=ins m l++[z]
 |[]=>by simp[ins,hz]
 |y::r=>by
  rw[List.cons_append];unfold ins
  split
  · rfl
  · rw[zNg m z hz r];rfl
theorem stp_no{k:Nat}{ini:List Mt}{z:Mt}(m:Mt)(hs:Srt (ini++[z]))(hk:k=ini.length+1)(hb:btr m z=false):stp k (ini++[z]) m=ini++[z]:=by
 unfold stp;rw[zWz m _ (fun y hy=>by
  rcases List.mem_append.1 hy with hy|hy
  · exact zEb hb ((List.pairwise_append.1 hs).2.2 y hy z (by simp))
  · rw[List.mem_singleton.1 hy];exact hb)]
 exact List.take_left' (by simp[hk])
theorem stp_yes{k:Nat}{ini:List Mt}{z:Mt}(m:Mt)(hk:k=ini.length+1)(hb:btr m z=true):stp k (ini++[z]) m=ins m ini:=by
 unfold stp;rw[zNg m z hb];exact List.take_left' (by rw[ins_len,hk])
theorem stp_zero(out:List Mt)(m:Mt):stp 0 out m=[]:=rfl
theorem Kp.add{k:Nat}{out h h':List Mt}(K:Kp k out h)(m:Mt)(hr:out.length<k)(hh:Hp h'.length h')(hp:h'.Perm (h++[m])):Kp k (ins m out) h':=
 ⟨hh,hp.trans ((List.perm_append_singleton m h).trans ((K.perm.cons m).trans (zHi m out).symm)),zWw m out K.srt,by rw[ins_len];omega⟩
theorem Kp.less{k:Nat}{ini h h':List Mt}{z:Mt}(K:Kp k (ini++[z]) h)(hh:Hp h'.length h')(hp:(z::h').Perm h):Kp k ini h':=by
 refine⟨hh,?_,(List.pairwise_append.1 K.srt).1,by have:=K.len;simp at this;omega⟩;exact List.Perm.cons_inv (hp.trans (K.perm.trans (List.perm_append_singleton z ini)))
theorem Kp.same_len{k:Nat}{out h:List Mt}(K:Kp k out h):h.length=out.length:=K.perm.length_eq
end Bt
end
section
open Go.RowKit Go.Lib Nums Pm
namespace Bt
def cellsM(m:Mt):List Value:=[.string m.1,.int .i64 m.2.1,.int .i64 m.2.2]
def valM(m:Mt):Value := .agg #[.string m.1,.int .i64 m.2.1,.int .i64 m.2.2]
theorem rtyM:RTy 52 46 3 32:=⟨by kernel_rfl,⟨.agg #[.string .empty,.int .i64 0,.int .i64 0],by kernel_rfl,rfl⟩,by decide,by decide⟩
theorem rtyMp:RTy 52 181 3 32:=⟨by kernel_rfl,⟨.agg #[.string .empty,.int .i64 0,.int .i64 0],by kernel_rfl,rfl⟩,by decide,by decide⟩
theorem cellsM_ok(m:Mt):zG1 3 (cellsM m):=⟨rfl,by intro u hu;simp[cellsM]at hu;rcases hu with rfl|rfl|rfl<;>rfl⟩
theorem belowN{B:Nat}{a w:World}(h:Below B a w)(n:Nat):Below B a (w.drewN n):=⟨h.os,h.tape,h.output,h.size,h.block⟩
theorem zHw(w:World)(o o':Obj):Below w.heap.size w ((w.alloc o).alloc o'):=((Below.refl _ w).alloc (Nat.le_refl _) o).alloc (by simp) o'
theorem zKf(a b:Mt)(w:World):Calls Tryz.prog 105 #[valM a,valM b] w fun e w'=>e = .returned (.bool (btr a b))∧Below w.heap.size w w':=by
 have HL:=fun W=>zDe a.1 b.1 W
 have HC:Hid (btr a b=if a.2.2=b.2.2 then (if a.2.1=b.2.1 then zAa a.1 b.1 else decide (b.2.1<a.2.1))else decide (a.2.2<b.2.2)):=rfl;by_cases h1:a.2.2=b.2.2
 · have hn1:(a.2.2 != b.2.2)=false:=by simpa using h1
   by_cases h2:a.2.1=b.2.1
   · have hn2:(a.2.1 != b.2.1)=false:=by simpa using h2
     rw[if_pos h1,if_pos h2]at HC;clear h1 h2;unfold valM;go_enter Tryz.func105,Tryz.ntmps105;go_wp2_with (go_at_call 72;refine(HL _).mono ?_;rintro e w' ⟨rfl,rfl⟩);go_ret;exact⟨by rw[HC.out];rfl,zHw _ _ _⟩
   · have hn2:(a.2.1 != b.2.1)=true:=by simpa using h2
     rw[if_pos h1,if_neg h2]at HC;clear h1 h2;unfold valM;go_enter Tryz.func105,Tryz.ntmps105;go_wp2;go_ret;exact⟨by rw[HC.out];rfl,zHw _ _ _⟩
 · have hn1:(a.2.2 != b.2.2)=true:=by simpa using h1
   rw[if_neg h1]at HC;clear h1;unfold valM;go_enter Tryz.func105,Tryz.ntmps105;go_wp2;go_ret;exact⟨by rw[HC.out];rfl,zHw _ _ _⟩
def zFx(P:Program)(x:Value)(w:World):Result Value:=(Instr.loadAt 52 x).run P w
def zDa(P:Program)(x y:Value)(w:World):Result Unit:=(Instr.storeAt 52 x y).run P w
section
variable (ρ:Operand→Value) (x y:Operand) (dst:Option Tmp) (ty:TypeId) (pos:String) (af:Array Edge) (g:Option (Nat×Bool)) (w:World)
theorem zB6:(execOp ρ ⟨dst,.load 52 x,ty,pos,af,g⟩).run Tryz.prog w=(zFx Tryz.prog (ρ x) w).andThen (fun v w' => .ok (.value v) w'):=by
 simp only[execOp,Sem.run_bind,zFx,Sem.run_pure]
theorem zBt:(execOp ρ ⟨dst,.store 52 x y,ty,pos,af,g⟩).run Tryz.prog w=(zDa Tryz.prog (ρ x) (ρ y) w).andThen (fun _ w' => .ok .skip w'):=by
 simp only[execOp,Sem.run_bind,zDa,Sem.run_pure]
end
theorem zDr{w:World}{b o:Nat}{x:Mt}(h0:w.cell? ⟨b,o,none⟩=some (.string x.1))(h1:w.cell? ⟨b,o+1,none⟩=some (.int .i64 x.2.1))(h2:w.cell? ⟨b,o+2,none⟩=some (.int .i64 x.2.2)):zFx Tryz.prog (.pointer (some ⟨b,o,none⟩)) w = .ok (valM x) w:=by
 unfold zFx valM;simp[go_sem,h0,h1,h2];try rfl
theorem zC9{w:World}{b o:Nat}{x:Mt}{u v z:Value}(h0:w.cell? ⟨b,o,none⟩=some u)(h1:w.cell? ⟨b,o+1,none⟩=some v)(h2:w.cell? ⟨b,o+2,none⟩=some z)(f0:w.frozen? ⟨b,o,none⟩=false)(f1:w.frozen? ⟨b,o+1,none⟩=false)(f2:w.frozen? ⟨b,o+2,none⟩=false):zDa Tryz.prog (.pointer (some ⟨b,o,none⟩)) (valM x) w = .ok () (w.setCells b o (cellsM x)):=by
 unfold zDa valM;simp[go_sem,h0,h1,h2,f0,f1,f2,cellsM,World.setCells];try rfl
structure Upd(F:Nat→Prop)(w w':World):Prop where
 os:w'.os=w.os
 tape:w'.tape=w.tape
 output:w'.output=w.output
 size:w.heap.size≤w'.heap.size
 block:∀k,k<w.heap.size→¬F k→w'.heap[k]?=w.heap[k]?
theorem Upd.refl(F:Nat→Prop)(w:World):Upd F w w:=⟨rfl,rfl,rfl,Nat.le_refl _,fun _ _ _=>rfl⟩
theorem Upd.trans{F G:Nat→Prop}{a b c:World}(h1:Upd F a b)(h2:Upd G b c)(hG:∀k,k<a.heap.size→G k→F k):Upd F a c:=
 ⟨h2.os.trans h1.os,h2.tape.trans h1.tape,h2.output.trans h1.output,Nat.le_trans h1.size h2.size,fun k hk hF=>(h2.block k (Nat.lt_of_lt_of_le hk h1.size) (fun g=>hF (hG k hk g))).trans (h1.block k hk hF)⟩
theorem Upd.mono{F G:Nat→Prop}{a b:World}(h:Upd F a b)(hG:∀k,F k→G k):Upd G a b:=⟨h.os,h.tape,h.output,h.size,fun k hk hF=>h.block k hk (fun f=>hF (hG k f))⟩
theorem Upd.below{F:Nat→Prop}{w w':World}(h:Upd F w w'){B:Nat}(hF:∀k,F k→B≤k)(hB:B≤w.heap.size):Below B w w':=
 ⟨h.os,h.tape,h.output,h.size,fun k hk=>h.block k (by omega) (fun f=>by have:=hF k f;omega)⟩
theorem zAm{F:Nat→Prop}{w w':World}(h:Below w.heap.size w w'):Upd F w w':=⟨h.os,h.tape,h.output,h.size,fun k hk _=>h.block k hk⟩
theorem Upd.drew{F:Nat→Prop}{w w':World}(h:Upd F w w'):Upd F w w'.drew:=⟨h.os,h.tape,h.output,h.size,h.block⟩
theorem Upd.setCell{F:Nat→Prop}{w w':World}(h:Upd F w w'){a:Addr}(ha:F a.block)(u:Value):Upd F w (w'.setCell a u):=
 h.trans (G:=F) ⟨rfl,rfl,rfl,by simp[World.setCell],fun k _ hk=>Below.heap_setCell _ _ _ _ (fun e=>hk (e▸ha))⟩ (fun _ _ h=>h)
theorem Upd.setCells{F:Nat→Prop}{w:World}{g:Nat}(hg:F g):∀(vs:List Value) (o:Nat) {w':World},Upd F w w'→Upd F w (w'.setCells g o vs)
 |[],_,_,h=>h
 |v::r,o,_,h=>Upd.setCells hg r (o+1) (h.setCell (a:=⟨g,o,none⟩) hg v)
theorem Upd.grown{F:Nat→Prop}{w w' w'':World}{row:Option Nat}(h:Upd F w w')(hg:w'.grownBy w'' row)(hr:∀k,k<w.heap.size→row=some k→F k):Upd F w w'':=
 h.trans (G:=fun k=>row=some k) ⟨hg.os,hg.tape,hg.output,hg.size,fun k hk hk2=>hg.block k hk (fun e=>hk2 e.symm)⟩ hr
def setM:List Value→Nat→List Value→List Value
 |xs,_,[]=>xs
 |xs,o,v::r=>setM (xs.set o v) (o+1) r
theorem zFt{base g n cap size:Nat}{e:TypeId}:∀(vs:List Value) (o:Nat) (w:World) (xs:List Value),w.ownsRow base e size (.slice (some ⟨g,0,none⟩) n cap) n xs→(w.setCells g o vs).ownsRow base e size (.slice (some ⟨g,0,none⟩) n cap) n (setM xs o vs)
 |[],_,_,_,h=>h
 |v::r,o,_,_,h=>zFt r (o+1) _ _ (h.stored o v).1
theorem zJn(A:List Value):∀(x y R:List Value),x.length=y.length→setM (A++(y++R)) A.length x=A++(x++R)
 |[],[],_,_=>rfl
 |v::r,u::s,R,h=>by
  have:=zJn (A++[v]) r s R (by simpa using h);rw[setM];simp only[List.length_append,List.length_cons,List.length_nil,Nat.zero_add,List.append_assoc,List.singleton_append]at this;rw[show(A++(u::s++R)).set A.length v=A++v::(s++R)by simp,this];rfl
termination_by x=>x.length
theorem zMv{k:Nat}(A:List Value):∀(xss:List (List Value)) (i:Nat) (x:List Value),(∀y∈xss,y.length=k)→x.length=k→i<xss.length→setM (A++xss.flatten) (A.length+i*k) x=A++(xss.set i x).flatten
 |y::r,0,x,hk,hx,_=>by
  rw[Nat.zero_mul,Nat.add_zero,List.flatten_cons,zJn A x y _ (by rw[hx,hk y (by simp)])];simp
 |y::r,i+1,x,hk,hx,hi=>by
  have:=zMv (A++y) r i x (fun z hz=>hk z (by simp[hz])) hx (by simpa using hi);rw[List.length_append,hk y (by simp)]at this;rw[List.flatten_cons,←List.append_assoc,show A.length+(i+1)*k=A.length+k+i*k by rw[Nat.add_mul];omega,this];simp
theorem GOwn.put{T:TypeId}{k B g n cap:Nat}{w:World}{xss:List (List Value)}(h:GOwn T k B w (.slice (some ⟨g,0,none⟩) n cap) xss)(hn:n=xss.length)(i:Nat)(hi:i<xss.length)(x:List Value)(hx:zG1 k x):GOwn T k B (w.setCells g (i*k) x) (.slice (some ⟨g,0,none⟩) n cap) (xss.set i x):=by
 subst hn;refine⟨fun y hy=>?_,?_⟩
 · rcases List.mem_or_eq_of_mem_set hy with hy|rfl
   · exact h.1 y hy
   · exact hx
 · have h1:=zFt x (i*k) w _ h.2
   have h2:=zMv (k:=k) [] xss i x (fun y hy=>(h.1 y hy).1) hx.1 hi;simp only[List.nil_append,List.length_nil,Nat.zero_add]at h2;rw[h2]at h1;rw[List.length_set];exact h1
theorem GOwn.upd{T:TypeId}{k B:Nat}{w w':World}{v:Value}{xss:List (List Value)}{F:Nat→Prop}(h:GOwn T k B w v xss)(u:Upd F w w')(hF:∀g,v.ownBlock=some g→¬F g):GOwn T k B w' v xss:=
 h.same fun g hg=>u.block g (h.lt hg) (hF g hg)
theorem GOwn.mt{B:Nat}{w:World}{v:Value}{h:List Mt}(H:GOwn 52 3 B w v (h.map cellsM))(h0:0<h.length):∃g cap,v = .slice (some ⟨g,0,none⟩) h.length cap∧g<w.heap.size∧B≤g∧h.length≤cap∧∀i,i<h.length→w.cell? ⟨g,i*3,none⟩=some (.string (el h i).1)∧w.cell? ⟨g,i*3+1,none⟩=some (.int .i64 (el h i).2.1)∧w.cell? ⟨g,i*3+2,none⟩=some (.int .i64 (el h i).2.2)∧w.frozen? ⟨g,i*3,none⟩=false∧w.frozen? ⟨g,i*3+1,none⟩=false∧w.frozen? ⟨g,i*3+2,none⟩=false:=by
 obtain⟨g,cap,hv,h1,h2,h3,h4⟩:=H.cell (by rw[List.length_map];exact h0);rw[List.length_map]at hv h3;refine⟨g,cap,hv,h1,h2,h3,fun i hi=>?_⟩;have e:(h.map cellsM)[i]?=some (cellsM (el h i)):=by rw[List.getElem?_map,zXq hi];rfl
 have hf:∀j,w.frozen? ⟨g,j,none⟩=false:=fun j=>by
  have:=H.2;rw[hv,List.length_map]at this;exact this.frozenAt j
 exact⟨h4 i 0 _ _ e rfl,h4 i 1 _ _ e rfl,h4 i 2 _ _ e rfl,hf _,hf _,hf _⟩
theorem map_set(h:List Mt)(i:Nat)(x:Mt):(h.set i x).map cellsM=(h.map cellsM).set i (cellsM x):=List.map_set ..
theorem zM9:Tryz.prog.follows .mixedOrders=true:=by kernel_rfl
end Bt
end
