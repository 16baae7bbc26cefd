import Derived.Test.YtobjpljdgieklaaGreatDoorJ15
import Derived.RangeFuncNested
set_option maxRecDepth 100000
set_option maxHeartbeats 8000000
namespace Go.Proofs.YtobjpljdgieklaaGreatDoor
section
open Go.RowKit Nums Fm
def zSa(x:Pr):Value := .agg #[.string x.1,.int .i64 x.2]
def Ext(A A':Nat→Prop)(w:World):Prop:=(∀k,A k→A' k)∧∀k,A' k→A k∨w.heap.size≤k
theorem Ext.refl(A:Nat→Prop)(w:World):Ext A A w:=⟨fun _ h=>h,fun _ h => .inl h⟩
theorem Ext.trans{A A' A'':Nat→Prop}{w w':World}(h:Ext A A' w)(h':Ext A' A'' w')(hs:w.heap.size≤w'.heap.size):Ext A A'' w:=
 ⟨fun k hk=>h'.1 k (h.1 k hk),fun k hk=>(h'.2 k hk).elim (h.2 k) (fun g => .inr (Nat.le_trans hs g))⟩
abbrev CI:=(Nat→Prop)→List Pr→World→Prop
def zF5(B:Nat)(I:CI):Prop:=∀A pre W W',I A pre W→Upd (fun k=>¬A k∧B≤k) W W'→I A pre W'
def Lies(A:Nat→Prop)(W:World):Prop:=∀k,A k→k<W.heap.size
def YC(yv:Value)(x:Pr)(W:World)(R:Ending→World→Prop):Prop:=
 ∃l,yv = .func (.yield l) #[] #[]∧∀m,YieldAt Fence.wide m Tryz.prog l #[zSa x] W R
theorem YC.mono{yv:Value}{x:Pr}{W:World}{R R':Ending→World→Prop}(h:YC yv x W R)(hr:∀e w,R e w→R' e w):YC yv x W R':=by
 obtain⟨l,h1,h2⟩:=h;refine⟨l,h1,fun m=>?_⟩;obtain⟨fn,tmps,asg,bd,hy,hR⟩:=h2 m;exact⟨fn,tmps,asg,bd,hy,hR.mono hr⟩
def zXl(I X:CI)(A:Nat→Prop)(pre:List Pr)(x:Pr)(W:World)(e:Ending)(W':World):Prop:=
 (e = .returned (.bool true)∧∃A',Ext A A' W∧Lies A' W'∧Upd A W W'∧I A' (pre++[x]) W')∨(e = .returned (.bool false)∧∃A',Ext A A' W∧Lies A' W'∧Upd A W W'∧X A' (pre++[x]) W')
def zXk(T:List Pr)(yv:Value)(I X:CI):Prop:=∀A pre x W,pre++[x]<+:T→I A pre W→Lies A W→YC yv x W (zXl I X A pre x W)
def SeqIs(S:(Nat→Prop)→World→Prop)(gf:Nat)(lb:Array Value)(L:List Pr):Prop:=
 ∀(yv:Value) (I X:CI) A W,(∃fn cb,yv = .func fn #[] cb)→S A W→zF5 W.heap.size I→zF5 W.heap.size X→zXk L yv I X→I A [] W→Lies A W→Calls Tryz.prog gf (#[yv]++lb) W fun e W'=>(∃v,e = .returned v) ∧
  ((∃A',Ext A A' W∧Lies A' W'∧Upd A W W'∧I A' L W')∨∃q A',q<+:L∧Ext A A' W∧Lies A' W'∧Upd A W W'∧X A' q W')
theorem Upd.put{W:World}(l:Nat)(o:Obj):Upd (fun k=>k=l) W (W.putObj l o):=
 ⟨rfl,rfl,rfl,by simp,fun k _ hk=>World.putObj_heap_other hk⟩
def roundQ(I:CI)(X:Code→CI)(A:Nat→Prop)(pre:List Pr)(x:Pr)(W:World):Exit→Act→World→Prop
 |.normal,_,W'=>∃A',Ext A A' W∧Lies A' W'∧Upd A W W'∧I A' (pre++[x]) W'
 |.ret,_,W'=>∃A',Ext A A' W∧Lies A' W'∧Upd A W W'∧X .ret A' (pre++[x]) W'
 |.exit i,_,W'=>∃A',Ext A A' W∧Lies A' W'∧Upd A W W'∧X (.exit i) A' (pre++[x]) W'
 |.goto t,_,W'=>∃A',Ext A A' W∧Lies A' W'∧Upd A W W'∧X (.goto t) A' (pre++[x]) W'
 |_,_,_=>False
theorem zTe{g:Operand}{ps:Array Tmp}{assign body:Code}{Q:Exit→Act→World→Prop}{a:Act}{w:World}{gf:Nat}{lb:Array Value}{S:(Nat→Prop)→World→Prop}{L:List Pr}
 (hg:a.eval g = .func (.func gf) #[] lb) (eg:∀args w,(callFunc gf args).run Tryz.prog w = .ok (.enter gf args) w) (hseq:SeqIs S gf lb L) (hps:ps.size=1)
 (I:CI) (X:Code→CI) (A:Nat→Prop) (hA:Lies A w) (hS:∀W,Below w.heap.size w W→S (fun k=>A k∨k=w.heap.size+1∨k=w.heap.size) W) (hI:zF5 w.heap.size I)
 (hX:∀c,zF5 w.heap.size (X c)) (h0:I A [] w)
 (hround:∀n l A pre x W,pre++[x]<+:L→I A pre W→Lies A W→¬A (w.heap.size+1)→w.heap.size+1<W.heap.size→assign.wpIn (Fence.wide.inRound l) n Tryz.prog (Exit.then (fun a1 W1=>Upd (fun _=>False) W W1∧∀W2,Upd (fun k=>k=w.heap.size+1) W1 W2→body.wpIn (Fence.wide.inRound l) n Tryz.prog (roundQ I X A pre x W2) a1 W2) (fun _ _ _=>False)) { tmps:=(ps.zip #[zSa x]).foldl (fun t (p,v)=>t.setIfInBounds p v) a.tmps,defers:=[] } W)
 (hdone:∀A' W,Lies A' W→I A' L W→W.heap[w.heap.size]?=some (.deferred (some []))→Q .normal { a with defers:={ target := .collected w.heap.size,args:=#[] }::a.defers } W)
 (hstop:∀c A' q W,q<+:L→Lies A' W→X c A' q W→W.heap[w.heap.size]?=some (.deferred (some []))→c.wp Tryz.prog Q { a with defers:={ target := .collected w.heap.size,args:=#[] }::a.defers } W):
 (Code.rangeFunc g ps assign body).wp Tryz.prog Q a w:=by
 refine(wpIn_wide (n:=0)).1 (wpIn_rangeFunc ?_);intro fn hfn;rw[Fence.wide_round];obtain⟨rec,hrec⟩:∃rec:LoopState→Option Code→Loop,rec=fun st pe=>{ state:=st,pending:=pe,fn,tmps:=a.tmps,params:=ps,assign,body,defers:=w.heap.size }:=⟨_,rfl⟩
 obtain⟨W1,hW1⟩:∃W1,(w.alloc (.deferred (some []))).alloc (.loop (rec .ready none))=W1:=⟨_,rfl⟩;have hL1:W1.heap[w.heap.size+1]?=some (.loop (rec .ready none)):=by
  rw[←hW1];have:=World.alloc_heap_new (w.alloc (.deferred (some []))) (.loop (rec .ready none));rwa [World.size_alloc]at this
 have hK1:W1.heap[w.heap.size]?=some (.deferred (some [])):=by
  rw[←hW1];exact(Below.heap_alloc _ _ _ (by simp)).trans (World.alloc_heap_new w _)
 have hb1:Below w.heap.size w W1:=by rw[←hW1];exact((Below.refl _ w).alloc (Nat.le_refl _) _).alloc (by simp) _
 have hs1:w.heap.size+1<W1.heap.size:=(Array.getElem?_eq_some_iff.1 hL1).1
 let IA:CI:=fun A2 pre W=>∃A,(∀k,A2 k↔A k∨k=w.heap.size+1∨k=w.heap.size)∧¬A (w.heap.size+1)∧¬A w.heap.size∧Lies A W∧W.heap[w.heap.size+1]?=some (.loop (rec .ready none))∧W.heap[w.heap.size]?=some (.deferred (some []))∧I A pre W
 let IX:CI:=fun A2 pre W=>∃A c,(∀k,A2 k↔A k∨k=w.heap.size+1∨k=w.heap.size)∧¬A (w.heap.size+1)∧¬A w.heap.size∧Lies A W∧W.heap[w.heap.size+1]?=some (.loop (rec .done (some c)))∧W.heap[w.heap.size]?=some (.deferred (some []))∧X c A pre W
 refine⟨w.heap.size+1,[{ target := .collected w.heap.size,args:=#[] }],W1,{ target := .fn (.func gf) lb,args:=#[.func (.yield (w.heap.size+1)) #[] #[]] },W1,gf,
  #[.func (.yield (w.heap.size+1)) #[] #[]]++lb,W1,?_,?_,fun _ _=>trivial,?_,fun h=>by simp[Fence.wide]at h,?_⟩
 · rw[←hW1,hrec];exact run_enterLoop_outer _ _ _ _ _
 · simp only[resolve,hg]
   simp[go_sem]
 · simp[invoke,go_sem,eg]
 · refine callsIn_wide.2 ((hseq (.func (.yield (w.heap.size+1)) #[] #[]) IA IX (fun k=>A k∨k=w.heap.size+1∨k=w.heap.size) W1 ⟨_,_,rfl⟩ (hS W1 hb1) ?_ ?_ ?_ ?_ ?_).mono ?_)
   · rintro A2 pre W W' ⟨B,hiff,n1,n2,hl,hr,hd,hi⟩ hu
     refine⟨B,hiff,n1,n2,fun k hk=>Nat.lt_of_lt_of_le (hl k hk) hu.size,?_,?_,hI _ _ _ _ hi (hu.mono fun k ⟨h1,h2⟩=>⟨fun h=>h1 ((hiff k).2 (.inl h)),by omega⟩)⟩
     · exact(hu.block _ (Array.getElem?_eq_some_iff.1 hr).1 (fun h=>h.1 ((hiff _).2 (.inr (.inl rfl))))).trans hr
     · exact(hu.block _ (Array.getElem?_eq_some_iff.1 hd).1 (fun h=>h.1 ((hiff _).2 (.inr (.inr rfl))))).trans hd
   · rintro A2 pre W W' ⟨B,c,hiff,n1,n2,hl,hr,hd,hi⟩ hu
     refine⟨B,c,hiff,n1,n2,fun k hk=>Nat.lt_of_lt_of_le (hl k hk) hu.size,?_,?_,hX c _ _ _ _ hi (hu.mono fun k ⟨h1,h2⟩=>⟨fun h=>h1 ((hiff k).2 (.inl h)),by omega⟩)⟩
     · exact(hu.block _ (Array.getElem?_eq_some_iff.1 hr).1 (fun h=>h.1 ((hiff _).2 (.inr (.inl rfl))))).trans hr
     · exact(hu.block _ (Array.getElem?_eq_some_iff.1 hd).1 (fun h=>h.1 ((hiff _).2 (.inr (.inr rfl))))).trans hd
   · rintro A2 pre x W hpx ⟨B,hiff,n1,n2,hl,hr,hd,hi⟩ hlies
     refine⟨w.heap.size+1,rfl,fun m=>?_⟩;have hlt:w.heap.size+1<W.heap.size:=(Array.getElem?_eq_some_iff.1 hr).1;have hy:=run_yield (P:=Tryz.prog) (args:=#[zSa x]) hr (by rw[hrec];exact hps.symm);rw[hrec]at hy;refine⟨fn,_,assign,body,hy,roundIn_of_wpIn hfn (wpIn_mono (hround m (w.heap.size+1) B pre x W hpx hi hl n1 hlt) ?_)⟩;clear hy;intro e0 a0 Wa hp0;cases e0 with
     |exit _=>exact hp0.elim
     |goto _=>exact hp0.elim
     |ret=>exact hp0.elim
     |panic _=>exact hp0.elim
     |outgrown=>exact hp0.elim
     |normal=>
     obtain⟨hu0,hbody⟩:=hp0;have hra:Wa.heap[w.heap.size+1]?=some (.loop (rec .ready none)):=(hu0.block _ hlt id).trans hr;have hda:Wa.heap[w.heap.size]?=some (.deferred (some [])):=(hu0.block _ (by omega) id).trans hd;have hlta:w.heap.size+1<Wa.heap.size:=(Array.getElem?_eq_some_iff.1 hra).1;refine⟨_,run_beginRound hra (by rw[hrec]),?_⟩;have hu1':Upd (fun k=>k=w.heap.size+1) Wa (Wa.putObj (w.heap.size+1) (.loop { rec .ready none with state := .busy })):=Upd.put _ _;have hl2:(Wa.putObj (w.heap.size+1) (.loop { rec .ready none with state := .busy })).heap[w.heap.size+1]?=some (.loop { rec .ready none with state := .busy }):=World.putObj_heap_same hlta;have hk2:(Wa.putObj (w.heap.size+1) (.loop { rec .ready none with state := .busy })).heap[w.heap.size]?=some (.deferred (some [])):=(World.putObj_heap_other (by omega)).trans hda;have hbody2:=hbody _ hu1';clear hbody;generalize (Wa.putObj (w.heap.size+1) (.loop { rec .ready none with state := .busy }))=Wb at hu1' hl2 hk2 hbody2;have hu1:Upd (fun k=>k=w.heap.size+1) W Wb:=(hu0.mono fun k h=>h.elim).trans hu1' (fun _ _ h=>h);have hszb:w.heap.size+1<Wb.heap.size:=(Array.getElem?_eq_some_iff.1 hl2).1;refine wpIn_mono hbody2 ?_
     have fin:∀(jump:Option Code) (W3:World),Upd B Wb W3 →
      (Instr.endRound (w.heap.size+1) jump).run Tryz.prog W3 = .ok (.bool jump.isNone) (W3.putObj (w.heap.size+1) (.loop (rec (if jump.isNone then .ready else .done) jump))) ∧
      (W3.putObj (w.heap.size+1) (.loop (rec (if jump.isNone then .ready else .done) jump))).heap[w.heap.size+1]?=some (.loop (rec (if jump.isNone then .ready else .done) jump)) ∧
      (W3.putObj (w.heap.size+1) (.loop (rec (if jump.isNone then .ready else .done) jump))).heap[w.heap.size]?=some (.deferred (some [])):=fun jump W3 hu3=>by
      have hl3:=(hu3.block _ hszb n1).trans hl2;have hd3:=(hu3.block _ (by omega) n2).trans hk2;have:=run_endRound (P:=Tryz.prog) jump hl3;rw[hrec]at this ⊢;exact⟨this,World.putObj_heap_same (Array.getElem?_eq_some_iff.1 hl3).1,(World.putObj_heap_other (by omega)).trans hd3⟩
     have out:∀(Z:CI) (B':Nat→Prop) (W3:World) (o:Obj),zF5 w.heap.size Z→Ext B B' Wb→Lies B' W3→Upd B Wb W3→Z B' (pre++[x]) W3 →
      Ext A2 (fun k=>B' k∨k=w.heap.size+1∨k=w.heap.size) W∧Lies (fun k=>B' k∨k=w.heap.size+1∨k=w.heap.size) (W3.putObj (w.heap.size+1) o)∧Upd A2 W (W3.putObj (w.heap.size+1) o)∧¬B' (w.heap.size+1)∧¬B' w.heap.size∧Lies B' (W3.putObj (w.heap.size+1) o)∧Z B' (pre++[x]) (W3.putObj (w.heap.size+1) o):=fun Z B' W3 o hZ he hl3 hu3 hi3=>by
      (have m1:¬B' (w.heap.size+1):=fun h=>(he.2 _ h).elim n1 (fun g=>by omega));(have m2:¬B' w.heap.size:=fun h=>(he.2 _ h).elim n2 (fun g=>by omega));have hu4:Upd (fun k=>k=w.heap.size+1) W3 (W3.putObj (w.heap.size+1) o):=Upd.put _ _;refine⟨⟨fun k hk=>?_,fun k hk=>?_⟩,fun k hk=>?_,?_,m1,m2,fun k hk=>by rw[World.putObj_size];exact hl3 k hk,hZ _ _ _ _ hi3 (hu4.mono fun k e=>by subst e;exact⟨m1,by omega⟩)⟩
      · rcases(hiff k).1 hk with h|h
        · exact .inl (he.1 k h)
        · exact .inr h
      · rcases hk with h|h
        · rcases he.2 k h with h|h
          · exact .inl ((hiff k).2 (.inl h))
          · exact .inr (Nat.le_trans hu1.size h)
        · exact .inl ((hiff k).2 (.inr h))
      · rw[World.putObj_size]
        have:=hu3.size;rcases hk with h|h|h
        · exact hl3 k h
        · omega
        · omega
      · exact((hu1.mono (G:=A2) fun k e=>(hiff k).2 (.inr (.inl e))).trans (hu3.mono (G:=A2) fun k h=>(hiff k).2 (.inl h)) (fun _ _ h=>h)).trans (hu4.mono (G:=A2) fun k e=>(hiff k).2 (.inr (.inl e))) (fun _ _ h=>h)
     rintro e a3 W3 hp;cases e with
     |normal=>
      obtain⟨B',he,hl3,hu3,hi3⟩:=hp;obtain⟨hr',f1,f2⟩:=fin none W3 hu3;obtain⟨g1,g2,g3,m1,m2,g4,g5⟩:=out I B' W3 _ hI he hl3 hu3 hi3;exact⟨_,_,hr',.inl ⟨rfl,_,g1,g2,g3,B',fun k=>Iff.rfl,m1,m2,g4,f1,f2,g5⟩⟩
     |ret=>
      obtain⟨B',he,hl3,hu3,hi3⟩:=hp;obtain⟨hr',f1,f2⟩:=fin (some .ret) W3 hu3;obtain⟨g1,g2,g3,m1,m2,g4,g5⟩:=out (X .ret) B' W3 _ (hX _) he hl3 hu3 hi3;exact⟨_,_,hr',.inr ⟨rfl,_,g1,g2,g3,B',.ret,fun k=>Iff.rfl,m1,m2,g4,f1,f2,g5⟩⟩
     |exit id=>
      obtain⟨B',he,hl3,hu3,hi3⟩:=hp;obtain⟨hr',f1,f2⟩:=fin (some (.exit id)) W3 hu3;obtain⟨g1,g2,g3,m1,m2,g4,g5⟩:=out (X (.exit id)) B' W3 _ (hX _) he hl3 hu3 hi3;exact⟨_,_,hr',.inr ⟨rfl,_,g1,g2,g3,B',.exit id,fun k=>Iff.rfl,m1,m2,g4,f1,f2,g5⟩⟩
     |goto t=>
      obtain⟨B',he,hl3,hu3,hi3⟩:=hp;obtain⟨hr',f1,f2⟩:=fin (some (.goto t)) W3 hu3;obtain⟨g1,g2,g3,m1,m2,g4,g5⟩:=out (X (.goto t)) B' W3 _ (hX _) he hl3 hu3 hi3;exact⟨_,_,hr',.inr ⟨rfl,_,g1,g2,g3,B',.goto t,fun k=>Iff.rfl,m1,m2,g4,f1,f2,g5⟩⟩
     |panic ch=>exact hp.elim
     |outgrown=>exact hp.elim
   · refine⟨A,fun k=>Iff.rfl,fun h=>?_,fun h=>?_,fun k hk=>Nat.lt_of_lt_of_le (hA k hk) hb1.size,hL1,hK1,hI _ _ _ _ h0 (Upd.of_below hb1)⟩
     · have:=hA _ h;omega
     · have:=hA _ h;omega
   · rintro k (h|h|h)
     · exact Nat.lt_of_lt_of_le (hA k h) hb1.size
     · omega
     · omega
   · rintro e W2 ⟨⟨v,rfl⟩,⟨A',he,hl2,hu2,B,hiff,n1,n2,hl,hr,hd,hi⟩|⟨q,A',hq,he,hl2,hu2,B,c,hiff,n1,n2,hl,hr,hd,hx⟩⟩
     · refine⟨none,_,by have:=run_endLoop (P:=Tryz.prog) hr (by rw[hrec];simp);rw[hrec]at this;exact this,?_⟩
       exact hdone B _ (fun k hk=>by rw[World.putObj_size];exact hl k hk) (hI _ _ _ _ hi ((Upd.put _ _).mono fun k e=>by subst e;exact⟨n1,by omega⟩)) ((World.putObj_heap_other (by omega)).trans hd)
     · refine⟨some c,_,by have:=run_endLoop (P:=Tryz.prog) hr (by rw[hrec];simp);rw[hrec]at this;exact this,?_⟩
       exact(wpIn_wide (n:=0)).2 (hstop c B q _ hq (fun k hk=>by rw[World.putObj_size];exact hl k hk) (hX c _ _ _ _ hx ((Upd.put _ _).mono fun k e=>by subst e;exact⟨n1,by omega⟩)) ((World.putObj_heap_other (by omega)).trans hd))
end
section
open Go.RowKit Nums Pm
theorem zE8(l:List Pr)(k:Nat)(x:Pr)(h:l[k]?=some x):l.drop k=x::l.drop (k+1):=by
 obtain⟨hk,rfl⟩:=List.getElem?_eq_some_iff.1 h;exact List.drop_eq_getElem_cons hk
theorem PRow.form{w:World}{v:Value}{l:List Pr}(h:PRow w v l):∃ad cap,v = .slice ad l.length cap:=by
 obtain⟨ad,cap,e,_⟩:=h;exact⟨ad,cap,e⟩
def zHr:Option Pr→Pr→Bool
 |none,_=>true
 |some p,x=>zAa p.1 x.1
def oneF(p:Option Pr)(x:Pr):Int:=if zAq x.1.data.toList=false then 71 else if x.2<1∨1048576<x.2 then 72 else if zHr p x=false then 73 else 0
def zA7(p:Option Pr):List Pr→Int
 |[]=>0
 |x::r=>if oneF p x=0 then zA7 (some x) r else oneF p x
def zBz(l:List Pr):Nat→Option Pr
 |0=>none
 |k+1=>l[k]?
theorem zBj{l:List Pr}{k:Nat}{x:Pr}(hx:l[k]?=some x){e:Int}(h:oneF (zBz l k) x=e)(he:e≠0):zA7 (zBz l k) (l.drop k)=e:=by rw[zE8 l k x hx,zA7,h,if_neg he]
theorem zEr{l:List Pr}{k:Nat}{x:Pr}(hx:l[k]?=some x)(h:oneF (zBz l k) x=0):zA7 (zBz l k) (l.drop k)=zA7 (zBz l (k+1)) (l.drop (k+1)):=by
 rw[zE8 l k x hx,zA7,h,if_pos rfl,zBz,hx]
theorem zM0{l:List Pr}{k:Nat}(h:l.length≤k):zA7 (zBz l k) (l.drop k)=0:=by rw[List.drop_eq_nil_of_le h];rfl
theorem zKm{p:Option Pr}{x:Pr}(h:zAq x.1.data.toList=false):oneF p x=71:=by simp[oneF,h]
theorem zOi{p:Option Pr}{x:Pr}(hw:zAq x.1.data.toList=true)(h:x.2<1):oneF p x=72:=by simp[oneF,h,hw]
theorem zKn{p:Option Pr}{x:Pr}(hw:zAq x.1.data.toList=true)(h:1048576<x.2):oneF p x=72:=by simp[oneF,h,hw]
theorem zQi{p:Option Pr}{x:Pr}(hw:zAq x.1.data.toList=true)(h1:¬x.2<1)(h2:¬1048576<x.2)(h:zHr p x=false):oneF p x=73:=by simp[oneF,h,hw,h1,h2]
theorem zQh{p:Option Pr}{x:Pr}(hw:zAq x.1.data.toList=true)(h1:¬x.2<1)(h2:¬1048576<x.2)(h:zHr p x=true):oneF p x=0:=by simp[oneF,h,hw,h1,h2]
def Sm(l:List Pr):Prop:=∀x∈l,x.1.size≤9223372036854775807
theorem Sm.at{l:List Pr}(h:Sm l){k:Nat}{x:Pr}(hx:l[k]?=some x):x.1.size≤9223372036854775807:=h x (List.mem_of_getElem? hx)
theorem zIu(w:World)(v:Value)(l:List Pr)(h:PRow w v l)(hl:l.length≤9223372036854775807)(hsm:Sm l)(ht:Tabs w):
 Calls Tryz.prog 62 #[v] w fun e w'=>e = .returned (.int .i64 (zA7 none l))∧Below w.heap.size w w':=by
 obtain⟨ad,cap,rfl⟩:=h.form;have HR:Hid (PRow w (.slice ad l.length cap) l):=h;obtain⟨n,hn⟩:∃n,l.length=n:=⟨_,rfl⟩;have HN:Hid (l.length=n):=hn;have HS:Hid (Sm l):=hsm;have HT:Hid (Tabs w):=ht;rw[hn]at HR hl;obtain⟨F,hF⟩:∃F,zA7 none l=F:=⟨_,rfl⟩;have HF:Hid (zA7 none l=F):=hF;clear h hsm ht;rw[hn,hF];clear hn hF;go_enter Tryz.func62,Tryz.ntmps62;go_wp2
 go_loopg [3,4,7] n (fun g _ _ s10 wr=>∃(k:Nat),s10 = .int .i64 k∧k≤n∧n-k≤g∧Hid (Below w.heap.size w wr)∧Hid (zA7 (zBz l k) (l.drop k)=F))
 case atStart=>exact⟨0,rfl,Nat.zero_le _,by omega,Below.refl _ _,HF⟩
 case round=>
  obtain⟨k,rfl,hk,hg,HB,HK⟩:=hrel;by_cases hlt:k<n
  · have hltz:(k:Int)<(n:Int):=by omega
    obtain⟨x,hx⟩:∃x,l[k]?=some x:=⟨l[k]'(by have:=HN.out;omega),List.getElem?_eq_getElem _⟩;obtain⟨b,off,rfl,hb,hcell⟩:=(HR.out.below HB.out).at (by omega);obtain⟨c0,c1⟩:=hcell k x hx;have HX:Hid (l[k]?=some x):=hx;obtain⟨X,hXe⟩:∃X:Obj,X = .cells #[.string x.1,.int .i64 x.2] 64:=⟨_,rfl⟩;(have hw:=fun(W:World) (ht:Tabs W)=>zCj x.1 W ht (HS.out.at hx));(have HTA:Hid (∀o,Tabs (wr.alloc o)):=fun o=>(HT.out.below HB.out).below ((Below.refl _ wr).alloc (Nat.le_refl _) o));(have HBA:Hid (∀o q,Below w.heap.size w ((wr.alloc o).drewN q)):=fun o q=>belowN (HB.out.alloc (by have:=HB.out.size;omega) o) q);clear hXe;cases hwd:zAq x.1.data.toList
    · have HE:Hid (F=71):=by show _=_;rw[←HK.out];exact zBj hx (zKm hwd) (by decide)
      rw[hwd]at hw;clear hcell hx hwd;go_wp2_with (go_at_call 56;refine(hw _ (HTA.out _)).mono ?_;rintro e w2 ⟨rfl,q,rfl⟩);go_ret;exact⟨by rw[HE.out];rfl,HBA.out _ _⟩
    · rw[hwd]at hw
      by_cases hlo:x.2<1
      · have HE:Hid (F=72):=by show _=_;rw[←HK.out];exact zBj hx (zOi hwd hlo) (by decide)
        clear hcell hx hwd;go_wp2_with (go_at_call 56;refine(hw _ (HTA.out _)).mono ?_;rintro e w2 ⟨rfl,q,rfl⟩);go_ret;exact⟨by rw[HE.out];rfl,HBA.out _ _⟩
      · by_cases hhi:1048576<x.2
        · have HE:Hid (F=72):=by show _=_;rw[←HK.out];exact zBj hx (zKn hwd hhi) (by decide)
          clear hcell hx hwd;go_wp2_with (go_at_call 56;refine(hw _ (HTA.out _)).mono ?_;rintro e w2 ⟨rfl,q,rfl⟩);go_ret;exact⟨by rw[HE.out];rfl,HBA.out _ _⟩
        · have HWD:Hid (zAq x.1.data.toList=true∧¬x.2<1∧¬1048576<x.2):=⟨hwd,hlo,hhi⟩
          clear hwd;by_cases hk0:k=0
          · have HK2:Hid (zA7 (zBz l (k+1)) (l.drop (k+1))=F):=by show _=_;rw[←HK.out];exact(zEr HX.out (zQh HWD.out.1 HWD.out.2.1 HWD.out.2.2 (by rw[hk0];rfl))).symm
            (have hk0z:¬(0:Int)<(k:Int):=by omega);have hgd:decide (0<k)=false:=decide_eq_false (by omega);(have HF2:Hid (∀(W:World) (q:Nat),W=(wr.alloc (.cells #[.string x.1,.int .i64 x.2] 64)).drewN q→W.cell? ⟨wr.heap.size,0,none⟩=some (.string x.1)∧W.cell? ⟨wr.heap.size,1,none⟩=some (.int .i64 x.2)∧W.cell? ⟨b,off+k*2,none⟩=some (.string x.1)∧Hid (Below w.heap.size w W)):=fun W q e=>by subst e;exact⟨by simp,by simp,by have:=((Below.refl _ wr).alloc (Nat.le_refl _) (.cells #[.string x.1,.int .i64 x.2] 64)).cell (p:=⟨b,off+k*2,none⟩) hb;exact this.trans c0,HBA.out _ _⟩);clear hcell hx hk0;go_wp2_with (go_at_call 56;refine(hw _ (HTA.out _)).mono ?_;rintro e w2 ⟨rfl,q,hq⟩;obtain⟨q0,q1,q2,HBq⟩:=HF2.out _ _ hq;clear hq);go_quiet (fail);go_wp2;have HB2:Hid (Below w.heap.size w _):=belowN HBq.out nq;go_roundg (n-(k+1));(case measure=>omega);case rel=>exact⟨k+1,by go_num,by omega,Nat.le_refl _,HB2,HK2⟩
          · obtain⟨kp,hkp⟩:∃kp,kp+1=k:=⟨k-1,by omega⟩
            (have hk0z:(0:Int)<(k:Int):=by omega);have hgd:decide (0<k)=true:=decide_eq_true (by omega);(have ekp:(k:Int)-1=(kp:Int):=by omega);obtain⟨y,hy⟩:∃y,l[kp]?=some y:=⟨l[kp]'(by have:=HN.out;omega),List.getElem?_eq_getElem _⟩;obtain⟨d0,d1⟩:=hcell kp y hy;(have rkp:IntKind.i64.wrap (kp:Int)=(kp:Int):=by rw[IntKind.wrap_i64];omega);(have pkp:(0:Int)≤(kp:Int):=by omega);(have bkp:(kp:Int)<(n:Int):=by omega);(have tkp:(kp:Int).toNat=kp:=by omega);(have hls:=fun W=>zDc y.1 x.1 W);(have HF2:Hid (∀(W:World) (q:Nat),W=(wr.alloc (.cells #[.string x.1,.int .i64 x.2] 64)).drewN q→W.cell? ⟨wr.heap.size,0,none⟩=some (.string x.1)∧W.cell? ⟨wr.heap.size,1,none⟩=some (.int .i64 x.2)∧W.cell? ⟨b,off+kp*2,none⟩=some (.string y.1)∧Hid (Below w.heap.size w W)):=fun W q e=>by subst e;exact⟨by simp,by simp,by have:=((Below.refl _ wr).alloc (Nat.le_refl _) (.cells #[.string x.1,.int .i64 x.2] 64)).cell (p:=⟨b,off+kp*2,none⟩) hb;exact this.trans d0,HBA.out _ _⟩);cases hyx:zAa y.1 x.1
            · have HE:Hid (F=73):=by show _=_;rw[←HK.out];exact zBj HX.out (zQi HWD.out.1 HWD.out.2.1 HWD.out.2.2 (by rw[←hkp,zBz,hy];exact hyx)) (by decide)
              rw[hyx]at hls;clear hcell hx hkp hy hyx hk0;go_wp2_with (go_at_call 56;refine(hw _ (HTA.out _)).mono ?_;rintro e w2 ⟨rfl,q,hq⟩;obtain⟨q0,q1,q2,HBq⟩:=HF2.out _ _ hq;clear hq);go_quiet (first|(go_at_call 100;refine Calls.quiet_of_same (hls _)));go_wp2;go_ret;exact⟨by rw[HE.out];rfl,belowN HBq.out nq⟩
            · have HK2:Hid (zA7 (zBz l (k+1)) (l.drop (k+1))=F):=by show _=_;rw[←HK.out];exact(zEr HX.out (zQh HWD.out.1 HWD.out.2.1 HWD.out.2.2 (by rw[←hkp,zBz,hy];exact hyx))).symm
              rw[hyx]at hls;clear hcell hx hkp hy hyx hk0;go_wp2_with (go_at_call 56;refine(hw _ (HTA.out _)).mono ?_;rintro e w2 ⟨rfl,q,hq⟩;obtain⟨q0,q1,q2,HBq⟩:=HF2.out _ _ hq;clear hq);go_quiet (first|(go_at_call 100;refine Calls.quiet_of_same (hls _)));go_wp2;have HB2:Hid (Below w.heap.size w _):=belowN HBq.out nq;go_roundg (n-(k+1));(case measure=>omega);case rel=>exact⟨k+1,by go_num,by omega,Nat.le_refl _,HB2,HK2⟩
  · have hltz:¬(k:Int)<(n:Int):=by omega
    (have HE:Hid (F=0):=by show _=_;rw[←HK.out];exact zM0 (by have:=HN.out;omega));go_wp2;go_ret;exact⟨by rw[HE.out];rfl,HB.out⟩
end
section
open Go.RowKit Nums Fm
def zCw(x:Pr):En:=((rs x.1.data.toList).getD [],x.2)
def ents(l:List Pr):List En:=l.map zCw
theorem Made.runes{B:Nat}{w:World}{v:Value}{xs:List Int}(h:Made B w v xs):RunesAt w.heap.size w v xs:=by
 obtain⟨hl,⟨e,h0⟩|⟨g,cap,cur,rfl,h1,hh,h3,h4,h5,h6⟩⟩:=h
 · exact⟨none,0,by rw[e,h0],fun h=>by omega⟩
 · refine⟨_,cap,rfl,fun _=>⟨g,0,rfl,(Array.getElem?_eq_some_iff.1 hh).1,fun i x hi=>?_⟩⟩
   (have e:(xs.map (Value.int .i32))[i]?=some (.int .i32 x):=by rw[List.getElem?_map,hi];rfl);rw[←h6,List.getElem?_take]at e
   split at e
   · simp only[World.cell?,hh,Nat.zero_add]
     simpa using e
   · cases e
theorem Made.kept{B:Nat}{w w':World}{v u:Value}{xs:List Int}{T:TypeId}{k B':Nat}{xss:List (List Value)}(h:Made B w v xs)(ho:GOwn T k B' w u xss)(hT:T≠21)(hg:w.grownBy w' u.ownBlock):Made B w' v xs:=by
 refine World.ownsRow.kept h hg ?_;by_cases e:v.ownBlock=none
 · exact .inl e
 · refine .inr fun e2=>?_
   obtain⟨g,hgv⟩:=Option.ne_none_iff_exists'.1 e;obtain⟨_,cur,h1⟩:=ho.block (e2.symm.trans hgv);obtain⟨_,⟨ev,_⟩|⟨g',cap,cur',rfl,_,h2,_⟩⟩:=h
   · rw[ev]at hgv;cases hgv
   · simp only[Value.ownBlock,Option.some.injEq]at hgv
     subst hgv;rw[h1]at h2;simp only[Option.some.injEq,Obj.cells.injEq]at h2;exact hT h2.2.1
structure EntsAt(B:Nat)(w:World)(v:Value)(es:List En):Prop where
 ex:∃xss:List (List Value),GOwn 167 2 B w v xss∧xss.length=es.length∧∀(i:Nat) (e:En),es[i]?=some e→∃u,xss[i]?=some [u,.int .i64 e.2]∧Made B w u e.1
theorem EntsAt.row{B:Nat}{w:World}{v:Value}{es:List En}(h:EntsAt B w v es):ERow w.heap.size w v es:=by
 obtain⟨xss,ho,hl,hx⟩:=h;by_cases h0:0<xss.length
 · obtain⟨g,cap,rfl,hg,_,hc,hcell⟩:=ho.cell h0
   refine⟨_,cap,by rw[hl],by omega,fun _=>⟨g,0,rfl,hg,fun i e hi=>?_⟩⟩;obtain⟨u,hu,hm⟩:=hx i e hi;exact⟨u,by rw[Nat.zero_add];exact hcell i 0 _ u hu rfl,by rw[Nat.zero_add];exact hcell i 1 _ _ hu rfl,hm.runes⟩
 · obtain⟨ad,cap,rfl,hc⟩:=ho.shape
   exact⟨ad,cap,by rw[hl],by omega,fun h=>absurd h (by omega)⟩
theorem Made.shape{B:Nat}{w:World}{v:Value}{xs:List Int}(h:Made B w v xs):∃ad cap,v = .slice ad xs.length cap:=by
 obtain⟨hl,⟨e,h0⟩|⟨g,cap,cur,rfl,_⟩⟩:=h
 · exact⟨none,0,by rw[e,h0]⟩
 · exact⟨_,cap,rfl⟩
theorem zM6{l:List Pr}{k:Nat}{x:Pr}(h:l[k]?=some x):ents (l.take (k+1))=ents (l.take k)++[zCw x]:=by
 rw[List.take_add_one,h];simp[ents]
theorem zBb(l:List Pr):(ents l).length=l.length:=by simp[ents]
def Wd(l:List Pr):Prop:=∀x∈l,∃xs,rs x.1.data.toList=some xs∧xs.length≤24∧x.1.size≤96
theorem zOu(w:World)(v:Value)(l:List Pr)(h:PRow w v l)(hl:l.length≤4096)(hwd:Wd l)(ht:Tabs w):
 Calls Tryz.prog 63 #[v] w fun e w'=>∃v',e = .returned v'∧ERow w'.heap.size w' v' (ents l)∧Below w.heap.size w w':=by
 obtain⟨ad,cap,rfl⟩:=h.form;have HR:Hid (PRow w (.slice ad l.length cap) l):=h;obtain⟨n,hn⟩:∃n,l.length=n:=⟨_,rfl⟩;have HN:Hid (l.length=n):=hn;have HS:Hid (Wd l):=hwd;have HT:Hid (Tabs w):=ht;rw[hn]at HR hl;clear h hwd ht;rw[hn];clear hn;go_enter Tryz.func63,Tryz.ntmps63;go_wp2
 go_loopg [3,5,6,7,10] n (fun g s3 _ _ _ s10 wr=>∃(k:Nat),s10 = .int .i64 k∧k≤n∧n-k≤g∧Hid (Below w.heap.size w wr)∧Hid (EntsAt w.heap.size wr s3 (ents (l.take k))))
 case atStart=>exact⟨0,rfl,Nat.zero_le _,by omega,Below.refl _ _,⟨[],GOwn.nil _ _ _ _,rfl,fun i e hi=>by simp[ents]at hi⟩⟩
 case round=>
  obtain⟨k,rfl,hk,hg,HB,HK⟩:=hrel;by_cases hlt:k<n
  · have hltz:(k:Int)<(n:Int):=by omega
    obtain⟨x,hx⟩:∃x,l[k]?=some x:=⟨l[k]'(by have:=HN.out;omega),List.getElem?_eq_getElem _⟩;obtain⟨b,off,rfl,hb,hcell⟩:=(HR.out.below HB.out).at (by omega);obtain⟨c0,c1⟩:=hcell k x hx;obtain⟨xs,hxs,hx24,hx96⟩:=HS.out x (List.mem_of_getElem? hx);(have HE:Hid (ents (l.take (k+1))=ents (l.take k)++[(xs,x.2)]):=by show _=_;rw[zM6 hx,zCw,hxs];rfl);have HX:Hid (rs x.1.data.toList=some xs):=hxs;have HRN:Hid (∀W,Tabs W→Calls Tryz.prog 71 #[.string x.1] W fun e w'=>∃v,Below W.heap.size W w'∧e = .returned (.tuple #[v,.bool true])∧Made W.heap.size w' v xs):=fun W hW=>by
     refine(zF4 x.1 W hW (by omega) (zCf hxs (by omega))).mono ?_;rintro e w' ⟨v,hb,⟨h1,_⟩|⟨ys,h1,h2,h3⟩⟩
     · rw[HX.out]at h1;cases h1
     · rw[HX.out]at h1;cases h1;exact⟨v,hb,h2,h3⟩
    (have HTA:Hid (∀o,Tabs (wr.alloc o)):=fun o=>(HT.out.below HB.out).below ((Below.refl _ wr).alloc (Nat.le_refl _) o));(have HA:Hid (∀o,Below wr.heap.size wr (wr.alloc o)∧(wr.alloc o).cell? ⟨b,off+k*2,none⟩=some (.string x.1)):=fun o=>⟨(Below.refl _ wr).alloc (Nat.le_refl _) o,(((Below.refl _ wr).alloc (Nat.le_refl _) o).cell (p:=⟨b,off+k*2,none⟩) hb).trans c0⟩);clear hcell hx hxs;(go_upto_region 5 with fail);(have hcA:(wr.alloc (.cells #[.string x.1,.int .i64 x.2] 64)).cell? ⟨wr.heap.size,1,none⟩=some (.int .i64 x.2):=by simp);(have hltA:wr.heap.size<(wr.alloc (.cells #[.string x.1,.int .i64 x.2] 64)).heap.size:=by simp);(go_upto_region 6 with(go_at_call 71;refine(HRN.out _ (HTA.out _)).mono ?_;rintro e w2 ⟨v6,hb2,rfl,hm6⟩));obtain⟨xss,ho,hxl,hxe⟩:=HK.out.ex;have hb20:Below wr.heap.size wr w2:=(HA.out _).1.trans (hb2.mono (HA.out _).1.size);have c21:w2.cell? ⟨wr.heap.size,1,none⟩=some (.int .i64 x.2):=(hb2.cell (p:=⟨wr.heap.size,1,none⟩) hltA).trans hcA;have ho2:GOwn 167 2 w.heap.size w2 u3 xss:=ho.below hb20;have hsz:w.heap.size≤wr.heap.size:=HB.out.size;have HO2:Hid (GOwn 167 2 w.heap.size w2 u3 xss):=ho2;have HM:Hid (∀(i:Nat) (e:En),(ents (l.take k))[i]?=some e→∃u,xss[i]?=some [u,.int .i64 e.2]∧Made w.heap.size w2 u e.1):=fun i e hi=>by
     obtain⟨u,h1,h2⟩:=hxe i e hi;exact⟨u,h1,h2.below hb20⟩
    have HM6:Hid (Made w.heap.size w2 v6 xs):=by
     obtain⟨hl,hn|⟨g,cap,cur,rfl,h1,h2⟩⟩:=hm6
     · exact⟨hl,.inl hn⟩
     · exact⟨hl,.inr ⟨g,cap,cur,rfl,by have:=(HA.out (.cells #[.string x.1,.int .i64 x.2] 64)).1.size;omega,h2⟩⟩
    obtain⟨ra,rc,rfl⟩:=hm6.shape;have HB2:Hid (Below w.heap.size w w2):=HB.out.trans (hb20.mono HB.out.size);(have HL:Hid (xss.length=k):=by show _=_;rw[hxl,zBb,List.length_take];have:=HN.out;omega);clear ho ho2 hxe hxl hm6 hcA hltA hb2 c0 c1;go_wp2_with (at_builtin;refine zC3 rtyE (by rfl) _ _ [.slice ra xs.length rc,.int .i64 x.2] _ rfl w.heap.size _ _ _ _ rfl HO2.out rfl rfl ⟨rfl,by simp[Value.oneCell']⟩ (by have:=HL.out;omega) HB2.out.size ?_);intro v7 w7 ho7 hb7 hg7;have HB7:Hid (Below w.heap.size w w7):=HB2.out.trans hb7;have HK7:Hid (EntsAt w.heap.size w7 v7 (ents (l.take (k+1)))):=by
     show EntsAt _ _ _ _;have hA2:Below w2.heap.size w2 (w2.alloc (.cells [.slice ra xs.length rc,.int .i64 x.2].toArray 167)):=(Below.refl _ w2).alloc (Nat.le_refl _) _;(have hk7:∀{u:Value} {ys:List Int},Made w.heap.size w2 u ys→Made w.heap.size w7 u ys:=fun h=>(h.below hA2).kept (HO2.out.below hA2) (by decide) hg7);rw[HE.out];refine⟨xss++[[.slice ra xs.length rc,.int .i64 x.2]],ho7,by simp[HL.out,zBb];have:=HN.out;omega,fun i e hi=>?_⟩;(have hlen:(ents (l.take k)).length=xss.length:=by rw[zBb,HL.out,List.length_take];have:=HN.out;omega);by_cases hik:i<xss.length
     · rw[List.getElem?_append_left (by omega)]at hi ⊢
       obtain⟨u,h1,h2⟩:=HM.out i e hi;exact⟨u,h1,hk7 h2⟩
     · rw[List.getElem?_append_right (by omega)]at hi ⊢
       rw[hlen]at hi;cases hi0:i-xss.length with
       |zero=>
        rw[hi0]at hi;simp only[List.getElem?_cons_zero,Option.some.injEq]at hi;subst hi;exact⟨_,rfl,hk7 HM6.out⟩
       |succ m=>rw[hi0]at hi;simp at hi
    clear ho7 hb7 hg7 HM HM6 HO2;go_wp2_with fail;go_roundg (n-(k+1));(case measure=>omega);case rel=>exact⟨k+1,by go_num,by omega,Nat.le_refl _,HB7,HK7⟩
  · have hltz:¬(k:Int)<(n:Int):=by omega
    have HE:Hid (l.take k=l):=List.take_of_length_le (by have:=HN.out;omega);go_wp2;go_ret;exact⟨_,rfl,by have:=HK.out.row;rwa [HE.out]at this,HB.out⟩
end
section
open Go.RowKit
variable {P:Program} {md:Region.Mode} {ops:Array Oper} {Q:Exit→Act→World→Prop} {S:World→Prop}
theorem pass_at{i:Nat}{oi:Oper}{fuel:Nat}{listed:Array Bool}{tmps:Array Value}{df:List Deferred}{w:World}(t:Tmp)(hi:ops[i]?=some oi)(hd:oi.dst=some t)
 (hs:Region.noSelect ops=true) (hf:Region.free md ops listed i=true) (hr:(Region.ready md ops listed).contains i=true)
 (hQ:∀c a w,Q (.panic c) (a.put oi.dst undef) w→Q (.panic c) a w) (hw:Region.wanted oi (yielded ops tmps)=false) (hS:S w)
 (h:wpAnyH P md ops Q S fuel (listed.setIfInBounds i true) { tmps:=tmps.setIfInBounds t undef,defers:=df } w):wpAnyH P md ops Q S (fuel+1) listed { tmps:=tmps,defers:=df } w:=by
 refine wpAnyH_take hi hs hf hr hQ (.inr ⟨hw,rfl⟩) hS ?_;rw[hd];exact h
theorem pk{i:Nat}{oi:Oper}{fuel:Nat}{listed:Array Bool}{tmps:Array Value}{df:List Deferred}{w:World}(t:Tmp)(hi:ops[i]?=some oi)(hd:oi.dst=some t)
 (hk:(Region.noSelect ops&&Region.free md ops listed i&&(Region.ready md ops listed).contains i)=true)
 (hQ:∀c a w,Q (.panic c) (a.put oi.dst undef) w→Q (.panic c) a w) (hw:Region.wanted oi (yielded ops tmps)=false) (hS:S w)
 (h:wpAnyH P md ops Q S fuel (listed.setIfInBounds i true) { tmps:=tmps.setIfInBounds t undef,defers:=df } w):wpAnyH P md ops Q S (fuel+1) listed { tmps:=tmps,defers:=df } w:=by
 simp only[Bool.and_eq_true]at hk;exact pass_at t hi hd hk.1.1 hk.1.2 hk.2 hQ hw hS h
theorem pq(i:Nat)(t:Tmp){oi:Oper}{fuel:Nat}{listed:Array Bool}{tmps:Array Value}{df:List Deferred}{w:World}
 (h:wpAnyH P md ops Q S fuel (listed.setIfInBounds i true) { tmps:=tmps.setIfInBounds t undef,defers:=df } w)(hi:ops[i]?=some oi:=by rfl)(hd:oi.dst=some t:=by rfl)(hk:(Region.noSelect ops&&Region.free md ops listed i&&(Region.ready md ops listed).contains i)=true:=by kernel_rfl)
 (hQ:∀c a w,Q (.panic c) (a.put oi.dst undef) w→Q (.panic c) a w:=by exact fun _ _ _ h=>h)(hw:Region.wanted oi (yielded ops tmps)=false:=by rfl)(hS:S w:=by assumption):wpAnyH P md ops Q S (fuel+1) listed { tmps:=tmps,defers:=df } w:=pk t hi hd hk hQ hw hS h
end
