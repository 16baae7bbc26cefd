import Derived.Test.YtkdhdehobdfakaaGreatDoorFRStB
namespace Go.Proofs.YtkdhdehobdfakaaGreatDoor
open Go.RowKit Nums Fm Pm
set_option maxRecDepth 100000
theorem zFn{tmps:Array Value}{w:World}{rb:Nat}{a b:Value}(h2:tmps.getD 4 undef = .pointer (some ⟨rb,0,none⟩))(c0:w.cell? ⟨rb,0,none⟩=some a)(c1:w.cell? ⟨rb,1,none⟩=some b):(results Tryz.f19 tmps).run Tryz.prog w = .ok (.tuple #[.agg #[a,b],tmps.getD 5 undef]) w:=by
 have h2':tmps[4]?.getD undef = .pointer (some ⟨rb,0,none⟩):=by simpa using h2
 simp[results,Tryz.results19,go_sem,h2',c0,c1]
structure KBlk(kb:Nat)(x y:Value)(w:World):Prop where
 blk:w.heap[kb]?=some (.cells #[x,y] 64)
theorem KBlk.facts{kb:Nat}{x y:Value}{w:World}(h:KBlk kb x y w):w.cell? ⟨kb,0,none⟩=some x∧w.cell? ⟨kb,1,none⟩=some y∧∀o,w.frozen? ⟨kb,o,none⟩=false:=⟨by simp[World.cell?,h.blk],by simp[World.cell?,h.blk],fun o=>by simp[World.frozen?,h.blk]⟩
theorem KBlk.lt{kb:Nat}{x y:Value}{w:World}(h:KBlk kb x y w):kb<w.heap.size:=(Array.getElem?_eq_some_iff.1 h.blk).1
theorem KBlk.below{kb:Nat}{x y:Value}{w w':World}(h:KBlk kb x y w)(hb:Below w.heap.size w w'):KBlk kb x y w':=⟨(hb.block kb h.lt).trans h.blk⟩
structure StIn(A:Nat→Prop)(f E B:Nat)(w:World)(vR vS vl:Value)(D:List (List En))(b:List St)(S:List En):Prop where
 inv:Inv D b
 good:Fm.Good f S
 rests:AllOwn E B w vR D
 states:StA A B w vS b
 row:RR E w vl S
 eb:E≤B
 bw:B≤w.heap.size
 len:(refF f D b S).1.length≤1048576
 sml:∀R∈(refF f D b S).1,zG9 R
 wts:∀e∈S,0≤e.2∧e.2≤1048576
theorem StIn.own{A:Nat→Prop}{f E B:Nat}{w:World}{vR vS vl:Value}{D:List (List En)}{b:List St}{S:List En}(h:StIn A (f+1) E B w vR vS vl D b S):zG9 (zAd S):=by
 refine h.sml _ ?_;rw[refF]
 split
 · assumption
 · simp
theorem zPa{S:List En}(h:zG9 (zAd S)):S.length≤1048576:=by have:=h.1;simpa[zAd,zAi]using this
namespace Fm
def foF(l:List En):Bool×Int:=l.foldl (fun a e=>if e.1=[]then (true,e.2)else a) (false,0)
theorem fo_snoc{l:List En}{k:Nat}{e:En}(h:l[k]?=some e):foF (l.take (k+1))=if e.1=[]then (true,e.2)else foF (l.take k):=by
 rw[List.take_add_one,h];show foF (l.take k++[e])=_;unfold foF;rw[List.foldl_append];rfl
theorem zPg:∀(l:List En) (a:Bool×Int),(∀e∈l,e.1≠[])→l.foldl (fun a e=>if e.1=[]then (true,e.2)else a) a=a
 |[],_,_=>rfl
 |e::r,a,h=>by
  rw[List.foldl_cons,if_neg (h e (by simp))];exact zPg r a fun x hx=>h x (by simp[hx])
theorem fo_level{S:List En}(hr:Rise S)(h0:S≠[]):foF (zAd S)=(zCw S,zCi (zAd S)):=by
 obtain⟨_,h2⟩:=zBi hr;have h3:∀e∈zAj (zAd S),e.1≠[]:=fun e he=>by
  rw[zAd,zD4]at he;obtain⟨x,hx,rfl⟩:=List.mem_map.1 he;exact h2 x hx
 have hl:=zFb h0;cases S with
 |nil=>exact absurd rfl h0
 |cons e r=>
  obtain⟨x,n⟩:=e;cases x with
  |nil=>
   have e1:zAd (([],n)::r)=([],n + -least (([],n)::r))::zAi (-least (([],n)::r)) r:=rfl;rw[e1]at h3 hl ⊢;have h4:=zPg _ (true,n + -least (([],n)::r)) h3;show List.foldl _ (true,n + -least (([],n)::r)) _=_;have e2:zCi (([],n + -least (([],n)::r))::zAi (-least (([],n)::r)) r)=n + -least (([],n)::r)-least (([],n + -least (([],n)::r))::zAi (-least (([],n)::r)) r):=rfl;rw[e2,hl,Int.sub_zero];exact h4
  |cons c t=>exact zPg _ (false,0) h3
end Fm
structure SBlk(sb:Nat)(x y z:Value)(w:World):Prop where
 blk:w.heap[sb]?=some (.cells #[x,y,z] 56)
theorem SBlk.facts{sb:Nat}{x y z:Value}{w:World}(h:SBlk sb x y z w):w.cell? ⟨sb,0,none⟩=some x∧w.cell? ⟨sb,1,none⟩=some y∧w.cell? ⟨sb,2,none⟩=some z∧∀o,w.frozen? ⟨sb,o,none⟩=false:=⟨by simp[World.cell?,h.blk],by simp[World.cell?,h.blk],by simp[World.cell?,h.blk],fun o=>by simp[World.frozen?,h.blk]⟩
theorem SBlk.lt{sb:Nat}{x y z:Value}{w:World}(h:SBlk sb x y z w):sb<w.heap.size:=(Array.getElem?_eq_some_iff.1 h.blk).1
theorem SBlk.below{sb:Nat}{x y z:Value}{w w':World}(h:SBlk sb x y z w)(hb:Below w.heap.size w w'):SBlk sb x y z w':=⟨(hb.block sb h.lt).trans h.blk⟩
theorem SBlk.set0{sb:Nat}{x y z:Value}{w:World}(h:SBlk sb x y z w)(u:Value):SBlk sb u y z (w.setCell ⟨sb,0,none⟩ u):=⟨by rw[zAt h.blk];rfl⟩
theorem SBlk.set1{sb:Nat}{x y z:Value}{w:World}(h:SBlk sb x y z w)(u:Value):SBlk sb x u z (w.setCell ⟨sb,1,none⟩ u):=⟨by rw[zAt h.blk];rfl⟩
structure KLoop(A:Nat→Prop)(f E B:Nat)(w:World)(vR vS vl vf:Value)(D:List (List En))(b:List St)(L:List En)(gs:List (Int×List En))(kb rb sb:Nat)(fn:Bool)(ot:Int)(wr:World)(k:Nat)(A':Nat→Prop)(vR' vS' va:Value):Prop where
 ks:KSays A A' E B w wr vR vS vR' vS' (refA (refF f) D b (gs.take k)).1 (refA (refF f) D b (gs.take k)).2.1
 inv:Inv (refA (refF f) D b (gs.take k)).1 (refA (refF f) D b (gs.take k)).2.1
 row:RMade E B wr vl L
 fst:IOwn B wr vf (fsts L)
 sblk:SBlk sb (.bool fn) (.int .i64 ot) va wr
 arcs:AOwn B wr va (refA (refF f) D b (gs.take k)).2.2
 kblk:KBlk kb vR' vS' wr
 rblk:KBlk rb (.slice none 0 0) (.slice none 0 0) wr
 free:∀j,va.ownBlock=some j→¬A' j
 new:∀j,va.ownBlock=some j→w.heap.size≤j
 apart:∀j,j=kb∨j=rb∨j=sb→¬fpK vR' vS' j
theorem zJo{S:List En}(h:Rise S):Rise (zAd S):=by
 unfold Rise zAd zAi;rw[List.pairwise_map];exact h
theorem zTd{f:Nat}{S:List En}(h:Fm.Good f S):Fm.Good f (zAd S):=⟨zHh.2 h.1,zJo h.2.1,fun e he=>by
 obtain⟨x,hx,rfl⟩:=List.mem_map.1 he;exact h.2.2 x hx⟩
theorem zWf{S:List En}(h0:S≠[])(h:∀e∈S,0≤e.2∧e.2≤1048576):∀e∈zAd S,0≤e.2∧e.2≤1048576:=fun e he=>by
 obtain⟨x,hx,rfl⟩:=List.mem_map.1 he;have h1:=zCb hx;have h2:=h x hx;obtain⟨y,hy,h3⟩:=zBz h0;have h4:=h y hy;simp only;omega
theorem Upd.set2(kb:Nat)(x y:Value)(w:World):Upd (fun j=>j=kb) w ((w.setCell ⟨kb,0,none⟩ x).setCell ⟨kb,1,none⟩ y):=by
 obtain⟨a1,a2,a3,a4⟩:=zA4 w kb 0 x;obtain⟨b1,b2,b3,b4⟩:=zA4 (w.setCell ⟨kb,0,none⟩ x) kb 1 y;exact⟨b1.trans a1,b2.trans a2,b3.trans a3,Nat.le_of_eq (b4.trans a4).symm,fun j _ hj=>(zAc _ _ _ _ hj).trans (zAc _ _ _ _ hj)⟩
theorem KBlk.set2{kb:Nat}{x y:Value}{w:World}(h:KBlk kb x y w)(u v:Value):KBlk kb u v ((w.setCell ⟨kb,0,none⟩ u).setCell ⟨kb,1,none⟩ v):=⟨by rw[zAt (zAt h.blk u)];rfl⟩
theorem IOwn.get{B:Nat}{w:World}{fg n cap k:Nat}{xs:List Int}{c:Int}(h:IOwn B w (.slice (some ⟨fg,0,none⟩) n cap) xs)(hk:xs[k]?=some c):w.cell? ⟨fg,k,none⟩=some (.int .i32 c):=by
 have hl:=(List.getElem?_eq_some_iff.1 hk).1;obtain⟨g,cp,e,_,_,_,hc⟩:=GOwn.cell h (by rw[List.length_map];omega);simp only[Value.slice.injEq,Option.some.injEq,Addr.mk.injEq,and_true]at e;have:=hc k 0 (zN0 c) (.int .i32 c) (by rw[List.getElem?_map,hk];rfl) rfl;rw[e.1];simpa using this
theorem RMade.over3{E B kb:Nat}{w w':World}{v vR vS x y:Value}{S:List En}{yss zss:List (List Value)}{BR BS:Nat}(h:RMade E B w v S)(hR:GOwn 60 1 BR w vR yss)(hS:GOwn 56 3 BS w vS zss)(hK:w.heap[kb]?=some (.cells #[x,y] 64))(hu:Upd (fun j=>fpK vR vS j∨j=kb) w w')(hE:Below E w w'):RMade E B w' v S:=by
 obtain⟨xss,h1,h2,h3⟩:=h.ex;refine⟨xss,h1.over3 hR hS hK (by decide) (by decide) (by decide) hu,h2,fun i e hi=>?_⟩;obtain⟨u,e1,e2,e3⟩:=h3 i e hi;exact⟨u,e1,e2.below hE,e3⟩
structure S19(sb fg k:Nat)(va:Value)(c:Int)(w:World):Prop where
 a:w.cell? ⟨sb,2,none⟩=some va
 b:w.cell? ⟨fg,k,none⟩=some (.int .i32 c)
theorem S19.facts{sb fg k:Nat}{va:Value}{c:Int}{w:World}(h:S19 sb fg k va c w):w.cell? ⟨sb,2,none⟩=some va∧w.cell? ⟨fg,k,none⟩=some (.int .i32 c):=⟨h.a,h.b⟩
theorem zN5{T TS:TypeId}{k bytes:Nat}{W:World}{ops:Array Oper}{rest:List Oper}{o:Oper}{a:Act}{Q:Exit→Act→World→Prop}(R:RTy T TS k bytes)(hgd:o.guard=none)(s y:Operand)(x:List Value)(T2:TypeId)
 (ho:o.op = .call { callee := .builtin .append,args:=#[s,y],argTypes:=#[TS,TS] }) (B nb c:Nat) (v:Value) (xss:List (List Value)) (hs:a.eval s=v) (hown:GOwn T k B W v xss) (hy:a.eval y = .slice (some ⟨nb,0,none⟩) 1 c) (hnb:nb=W.heap.size) (hx:zG1 k x) (h63:xss.length<1099511627776) (hB:B≤W.heap.size)
 (h:∀v' w',GOwn T k B w' v' (xss++[x])→Below B W w'→(W.alloc (.cells x.toArray T2)).grownBy w' v.ownBlock→Newer W v v'→wpList Tryz.prog ops Q rest (a.put o.dst v') w'):wpList Tryz.prog ops Q (o::rest) a (W.alloc (.cells x.toArray T2)):=by
 subst hnb;have hbA:Below W.heap.size W (W.alloc (.cells x.toArray T2)):=(Below.refl _ W).alloc (Nat.le_refl _) _;obtain⟨v',w',h1,h2,h3,h4⟩:=zAx R (hown.below hbA) (by simp;omega) hx (nb:=W.heap.size) (fun j u hj=>by simpa using hj) h63 o.type c;refine wpList_plain hgd fun _ hK=>?_
 unfold Oper.wp execOp;simp only[ho,resolve,invoke,builtin,Sem.run_bind,Sem.run_pure,Result.andThen_ok,List.map_toArray,List.map_cons,List.map_nil,hs,hy,h1];refine hK _ _ (h v' w' h2 (((Below.refl B W).alloc hB _).trans (zIf (hown.below hbA) h3 (by simp;omega))) h3 ?_);rcases h4 with h4|⟨g,h4,h5⟩
 · exact .inl h4
 · exact .inr ⟨g,h4,Nat.le_trans hbA.size h5⟩
structure EndAt(A:Nat→Prop)(E B kb rb sb:Nat)(vR vS va:Value)(D:List (List En))(b:List St)(acc:List Arc)(fn:Bool)(ot:Int)(W:World):Prop where
 rests:AllOwn E B W vR D
 states:StA A B W vS b
 arcs:AOwn B W va acc
 kblk:KBlk kb vR vS W
 rblk:KBlk rb (.slice none 0 0) (.slice none 0 0) W
 sblk:SBlk sb (.bool fn) (.int .i64 ot) va W
theorem zRw{B kb:Nat}{vR vS v:Value}{T:TypeId}{k:Nat}{W W7:World}{o:Obj}{xss:List (List Value)}(hk:KBlk kb vR vS W)(hRo:GOwn T k B W v xss)(hT:T≠64)(hg7:(W.alloc o).grownBy W7 v.ownBlock)(i:Nat)(u:Value):
 (∀j,j<W.heap.size→v.ownBlock≠some j→j≠kb→(W7.setCell ⟨kb,i,none⟩ u).heap[j]?=W.heap[j]?)∧(∀(j:Nat) (cur:Array Value) (T':TypeId),W.heap[j]?=some (Obj.cells cur T' (0,0))→T'≠T→T'≠64→(W7.setCell ⟨kb,i,none⟩ u).heap[j]?=W.heap[j]?)∧KBlk kb vR vS W7:=by
 have hA:∀j,j<W.heap.size→(W.alloc o).heap[j]?=W.heap[j]?:=fun j hj=>(MapKept.heap_alloc _ _).2 j hj
 have hsz:∀j,j<W.heap.size→j<(W.alloc o).heap.size:=fun j hj=>by simp;omega
 have h7:∀j,j<W.heap.size→v.ownBlock≠some j→W7.heap[j]?=W.heap[j]?:=fun j hj hn=>(hg7.block j (hsz j hj) (fun e=>hn e.symm)).trans (hA j hj)
 have hty:∀(j:Nat) (cur:Array Value) (T':TypeId),W.heap[j]?=some (Obj.cells cur T' (0,0))→T'≠T→v.ownBlock≠some j:=fun j cur T' hj hne e=>by
  obtain⟨_,c2,hc2⟩:=GOwn.block hRo e;rw[hj]at hc2;simp only[Option.some.injEq,Obj.cells.injEq]at hc2;exact hne hc2.2.1
 refine⟨fun j hj h1 h2=>(zAc _ _ _ _ h2).trans (h7 j hj h1),fun j cur T' hj h1 h2=>?_,⟨(h7 kb hk.lt (hty kb _ _ hk.blk (Ne.symm hT))).trans hk.blk⟩⟩;have hjl:=(Array.getElem?_eq_some_iff.1 hj).1;refine(zAc _ _ _ _ (fun e=>?_)).trans (h7 j hjl (hty j cur T' hj h1));rw[e,hk.blk]at hj;simp only[Option.some.injEq,Obj.cells.injEq]at hj;exact h2 hj.2.1.symm
theorem end_rest{A:Nat→Prop}{E B kb rb sb:Nat}{vR vS va vl v7:Value}{D:List (List En)}{b:List St}{acc:List Arc}{fn:Bool}{ot:Int}{W W7:World}{o:Obj}{L:List En}{xss:List (List Value)}(h:EndAt A E B kb rb sb vR vS va D b acc fn ot W)(hRo:GOwn 60 1 B W vR xss)(hxl:xss.length=D.length)(hxe:∀(i:Nat) (R:List En),D[i]?=some R→∃u,xss[i]?=some [u]∧RMade E B W u R)(hl:RMade E B W vl L)(hEB:E≤B)(hBk:B≤kb)(hrk:rb≠kb)
 (ho7:GOwn 60 1 B W7 v7 (xss++[[vl]])) (hb7:Below B W W7) (hg7:(W.alloc o).grownBy W7 vR.ownBlock):EndAt A E B kb rb sb v7 vS va (D++[L]) b acc fn ot (W7.setCell ⟨kb,0,none⟩ v7)∧Upd (fun j=>vR.ownBlock=some j∨j=kb) W (W7.setCell ⟨kb,0,none⟩ v7)∧Below B W (W7.setCell ⟨kb,0,none⟩ v7)∧KBlk kb vR vS W7:=by
 obtain⟨e1,e2,hk7⟩:=zRw h.kblk hRo (by decide) hg7 0 v7;have hbs:Below B W (W7.setCell ⟨kb,0,none⟩ v7):=hb7.setCell (p:=⟨kb,0,none⟩) hBk v7;have hE:Below E W (W7.setCell ⟨kb,0,none⟩ v7):=hbs.mono hEB;have hm:∀{u R},RMade E B W u R→RMade E B (W7.setCell ⟨kb,0,none⟩ v7) u R:=fun hu=>hu.typed (fun j cur hj=>e2 j cur _ hj (by decide) (by decide)) hE
 obtain⟨zss,hSo,_⟩:=h.states.ex;refine⟨⟨⟨xss++[[vl]],ho7.same fun g hg=>zAc _ _ _ _ (fun e=>?_),by simp[hxl],fun i R hi=>?_⟩,h.states.kept hbs.size (fun j hj=>?_) (fun j cur _ hj=>e2 j cur _ hj (by decide) (by decide)),GOwn.same h.arcs fun g hg=>?_,⟨by rw[zAt hk7.blk];rfl⟩,⟨?_⟩,⟨?_⟩⟩,⟨hbs.os,hbs.tape,hbs.output,hbs.size,fun j hj hn=>e1 j hj (fun e=>hn (.inl e)) (fun e=>hn (.inr e))⟩,hbs,hk7⟩
 · obtain⟨_,c2,hc2⟩:=ho7.block hg
   rw[e,hk7.blk]at hc2;simp only[Option.some.injEq,Obj.cells.injEq]at hc2;exact absurd hc2.2.1 (by decide)
 · by_cases hi2:i<D.length
   · rw[List.getElem?_append_left hi2]at hi
     obtain⟨u,g1,g2⟩:=hxe i R hi;exact⟨u,by rw[List.getElem?_append_left (by omega)];exact g1,hm g2⟩
   · have hi3:i=D.length:=by
      have:=(List.getElem?_eq_some_iff.1 hi).1;simp at this;omega
     subst hi3;rw[List.getElem?_append_right (Nat.le_refl _)]at hi;simp at hi;subst hi;exact⟨vl,by rw[List.getElem?_append_right (by omega),hxl];simp,hm hl⟩
 · obtain⟨_,cur,hc⟩:=hSo.block hj
   exact e2 j cur _ hc (by decide) (by decide)
 · obtain⟨_,cur,hc⟩:=GOwn.block h.arcs hg
   exact e2 g cur _ hc (by decide) (by decide)
 · rw[e1 rb h.rblk.lt (fun e=>?_) hrk]
   · exact h.rblk.blk
   · obtain⟨_,c2,hc2⟩:=hRo.block e
     rw[h.rblk.blk]at hc2;simp only[Option.some.injEq,Obj.cells.injEq]at hc2;exact absurd hc2.2.1 (by decide)
 · rw[e2 sb _ _ h.sblk.blk (by decide) (by decide)]
   exact h.sblk.blk
theorem zXp{A:Nat→Prop}{E B kb rb sb:Nat}{vR vS va v9:Value}{D:List (List En)}{b:List St}{acc:List Arc}{fn:Bool}{ot:Int}{W W9:World}{o:Obj}{zss:List (List Value)}(h:EndAt A E B kb rb sb vR vS va D b acc fn ot W)(hSo:GOwn 56 3 B W vS zss)(hzl:zss.length=b.length)(hze:∀(i:Nat) (s:St),b[i]?=some s→∃va,zss[i]?=some [.bool s.final,.int .i64 s.out,va]∧AOwn B W va s.arcs∧∀k,va.ownBlock=some k→A k)(hEB:E≤B)(hBk:B≤kb)(hrk:rb≠kb)
 (ho9:GOwn 56 3 B W9 v9 (zss++[[.bool fn,.int .i64 ot,va]])) (hb9:Below B W W9) (hg9:(W.alloc o).grownBy W9 vS.ownBlock):AllOwn E B (W9.setCell ⟨kb,1,none⟩ v9) vR D∧StA (fun j=>A j∨va.ownBlock=some j) B (W9.setCell ⟨kb,1,none⟩ v9) v9 (b++[⟨fn,ot,acc⟩])∧KBlk kb vR v9 (W9.setCell ⟨kb,1,none⟩ v9)∧KBlk rb (.slice none 0 0) (.slice none 0 0) (W9.setCell ⟨kb,1,none⟩ v9)∧Upd (fun j=>vS.ownBlock=some j∨j=kb) W (W9.setCell ⟨kb,1,none⟩ v9)∧Below B W (W9.setCell ⟨kb,1,none⟩ v9)∧KBlk kb vR vS W9:=by
 obtain⟨e1,e2,hk9⟩:=zRw h.kblk hSo (by decide) hg9 1 v9;have hbs:Below B W (W9.setCell ⟨kb,1,none⟩ v9):=hb9.setCell (p:=⟨kb,1,none⟩) hBk v9;have hE:Below E W (W9.setCell ⟨kb,1,none⟩ v9):=hbs.mono hEB;have ha:∀{u l},AOwn B W u l→AOwn B (W9.setCell ⟨kb,1,none⟩ v9) u l:=fun hu=>GOwn.same hu fun g hg=>(by obtain⟨_,cur,hc⟩:=GOwn.block hu hg;exact e2 g cur _ hc (by decide) (by decide))
 refine⟨h.rests.typed (fun j cur hj=>e2 j cur _ hj (by decide) (by decide)) (fun j cur hj=>e2 j cur _ hj (by decide) (by decide)) hE,⟨⟨zss++[[.bool fn,.int .i64 ot,va]],ho9.same fun g hg=>zAc _ _ _ _ (fun e=>?_),by simp[hzl],fun i s hi=>?_⟩,fun k hk=>?_⟩,⟨by rw[zAt hk9.blk];rfl⟩,⟨?_⟩,⟨hbs.os,hbs.tape,hbs.output,hbs.size,fun j hj hn=>e1 j hj (fun e=>hn (.inl e)) (fun e=>hn (.inr e))⟩,hbs,hk9⟩
 · obtain⟨_,c2,hc2⟩:=ho9.block hg
   rw[e,hk9.blk]at hc2;simp only[Option.some.injEq,Obj.cells.injEq]at hc2;exact absurd hc2.2.1 (by decide)
 · by_cases hi2:i<b.length
   · rw[List.getElem?_append_left hi2]at hi
     obtain⟨u,g1,g2,g3⟩:=hze i s hi;exact⟨u,by rw[List.getElem?_append_left (by omega)];exact g1,ha g2,fun k hk => .inl (g3 k hk)⟩
   · have hi3:i=b.length:=by
      have:=(List.getElem?_eq_some_iff.1 hi).1;simp at this;omega
     subst hi3;rw[List.getElem?_append_right (Nat.le_refl _)]at hi;simp at hi;subst hi;exact⟨va,by rw[List.getElem?_append_right (by omega),hzl];simp,ha h.arcs,fun k hk => .inr hk⟩
 · rcases hk with hk|hk
   · exact Nat.lt_of_lt_of_le (h.states.lt k hk) hbs.size
   · exact Nat.lt_of_lt_of_le (GOwn.lt h.arcs hk) hbs.size
 · rw[e1 rb h.rblk.lt (fun e=>?_) hrk]
   · exact h.rblk.blk
   · obtain⟨_,c2,hc2⟩:=hSo.block e
     rw[h.rblk.blk]at hc2;simp only[Option.some.injEq,Obj.cells.injEq]at hc2;exact absurd hc2.2.1 (by decide)
