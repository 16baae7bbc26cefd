import Derived.Laws.EntriesVeiled
import Derived.Shelf.Abstract
import Derived.Test.YtkdhdehobdfakaaGreatDoorJ29
import Derived.WalkMore
set_option maxRecDepth 100000
set_option maxHeartbeats 8000000
namespace Go.Proofs.YtkdhdehobdfakaaGreatDoor
section
open Go.RowKit Nums Fm Pk
attribute [local go_sem] Oper.semAt_some
def zJ9(c:Int):List Value:=[.int .i32 c]
theorem zYa(c:Int):zG1 1 (zJ9 c):=⟨rfl,by simp[zJ9,Value.oneCell']⟩
theorem rtyC:RTy 21 104 1 4:=⟨by kernel_rfl,⟨.int .i32 0,by kernel_rfl,rfl⟩,by decide,by decide⟩
abbrev COwn(B:Nat)(w:World)(v:Value)(l:List Int):Prop:=GOwn 21 1 B w v (l.map zJ9)
theorem COwn.row{B:Nat}{w:World}{v:Value}{l:List Int}(h:COwn B w v l):Row w v l:=by
 obtain⟨ad,cap,hv,_⟩:=GOwn.shape h;rw[List.length_map]at hv;refine⟨ad,cap,hv,fun h0=>?_⟩;obtain⟨g,c2,hv2,hg,_,_,hc⟩:=GOwn.cell h (by rw[List.length_map];exact h0);rw[hv]at hv2;simp only[Value.slice.injEq]at hv2;refine⟨g,0,hv2.1,fun i hi=>?_⟩;have e:(l.map zJ9)[i]?=some (zJ9 (l.getD i 0)):=by
  rw[List.getElem?_map,List.getElem?_eq_getElem hi,List.getD_eq_getElem?_getD,List.getElem?_eq_getElem hi];rfl
 have:=hc i 0 _ _ e rfl;rw[Nat.mul_one,Nat.add_zero]at this;rw[Nat.zero_add];exact this
theorem GOwn.pop{T:TypeId}{k B:Nat}{w:World}{v:Value}{xss:List (List Value)}{x:List Value}(h:GOwn T k B w v (xss++[x])):∃g cap,v = .slice (some ⟨g,0,none⟩) (xss.length+1) cap∧xss.length+1≤cap∧GOwn T k B w (.slice (some ⟨g,0,none⟩) xss.length cap) xss:=by
 obtain⟨hc,hl,⟨e,h0⟩|⟨g,cap,cur,hv,h1,hh,h3,h4,h5,h6⟩⟩:=h
 · simp at h0
 · rw[List.length_append,List.length_singleton]at hv h3 hl h6
   (have hk:∀y∈xss,y.length=k:=fun y hy=>(hc y (List.mem_append.2 (.inl hy))).1);have hfl:xss.flatten.length=xss.length*k:=by
    clear h6 hl hv h3 hc
    induction xss with
    |nil=>simp
    |cons y r ih=>rw[List.flatten_cons,List.length_append,hk y (by simp),ih (fun z hz=>hk z (by simp[hz])),List.length_cons,Nat.add_mul];omega
   refine⟨g,cap,hv,h3,fun y hy=>hc y (List.mem_append.2 (.inl hy)),hfl,.inr ⟨g,cap,cur,rfl,h1,hh,by omega,h4,h5,?_⟩⟩;have h7:=congrArg (List.take (xss.length*k)) h6;rw[List.take_take,List.flatten_append,←hfl,List.take_left]at h7;rw[←h7,hfl];congr 1;have:xss.length*k≤(xss.length+1)*k:=Nat.mul_le_mul_right _ (by omega);omega
structure TrAt(B:Nat)(W:World)(tb wb k:Nat)(pv yv:Value)(path:List Int):Prop where
 lo:B≤tb
 blk:W.heap[tb]?=some (.cells #[.pointer (some ⟨wb,0,none⟩),.int .i64 (k:Int),pv,yv] 197)
 row:COwn B W pv path
theorem TrAt.lt{B:Nat}{W:World}{tb wb k:Nat}{pv yv:Value}{path:List Int}(h:TrAt B W tb wb k pv yv path):tb<W.heap.size:=(Array.getElem?_eq_some_iff.1 h.blk).1
theorem TrAt.facts{B:Nat}{W:World}{tb wb k:Nat}{pv yv:Value}{path:List Int}(h:TrAt B W tb wb k pv yv path):W.cell? ⟨tb,0,none⟩=some (.pointer (some ⟨wb,0,none⟩))∧W.cell? ⟨tb,1,none⟩=some (.int .i64 (k:Int))∧W.cell? ⟨tb,2,none⟩=some pv∧W.cell? ⟨tb,3,none⟩=some yv∧∀o,W.frozen? ⟨tb,o,none⟩=false:=
 ⟨by simp[World.cell?,h.blk],by simp[World.cell?,h.blk],by simp[World.cell?,h.blk],by simp[World.cell?,h.blk],fun o=>by simp[World.frozen?,h.blk]⟩
theorem TrAt.kept{B:Nat}{W W':World}{tb wb k:Nat}{pv yv:Value}{path:List Int}(h:TrAt B W tb wb k pv yv path)(e1:W'.heap[tb]?=W.heap[tb]?)(e2:∀g,pv.ownBlock=some g→W'.heap[g]?=W.heap[g]?):TrAt B W' tb wb k pv yv path:=
 ⟨h.lo,e1.trans h.blk,GOwn.same h.row e2⟩
theorem TrAt.below{B:Nat}{W W':World}{tb wb k:Nat}{pv yv:Value}{path:List Int}(h:TrAt B W tb wb k pv yv path)(hb:Below W.heap.size W W'):TrAt B W' tb wb k pv yv path:=
 h.kept (hb.block tb h.lt) (fun g hg=>hb.block g (GOwn.lt h.row hg))
theorem zUi(B:Nat)(W:World)(tb wb k:Nat)(pv yv:Value)(path:List Int)(weight:Int)(h:TrAt B W tb wb (k+1) pv yv path)(hk:k+1≤9223372036854775807):
 Calls Tryz.prog 143 #[.pointer (some ⟨tb,0,none⟩),.int .i64 weight] W fun e W'=>e = .returned (.bool true)∧W'=W.setCell ⟨tb,1,none⟩ (.int .i64 (k:Int)):=by
 obtain⟨c0,c1,c2,c3,fz⟩:=h.facts;have fz1:=fz 1;have hz:(0:Int)<((k+1:Nat):Int):=by omega
 have hz2:((k+1:Nat):Int)-1=(k:Int):=by omega
 clear h;go_enter Tryz.func143,Tryz.ntmps143;go_wp2;go_ret;exact⟨rfl,rfl⟩
theorem tell_now(B:Nat)(W:World)(tb wb:Nat)(pv yv:Value)(path:List Int)(weight:Int)(h:TrAt B W tb wb 0 pv yv path)(hT:Tabs W)(hp:path.length≤24)(I X:CI)(A:Nat→Prop)(pre:List Pr)(hI:zGf B I)(T:List Pr)(hY:zYq T yv I X)(hPT:pre++[(zAw path,weight)]<+:T)(hA:Lies A W)(h0:I A pre W):
 Calls Tryz.prog 143 #[.pointer (some ⟨tb,0,none⟩),.int .i64 weight] W (zYr I X A pre (zAw path,weight) W):=by
 obtain⟨c0,c1,c2,c3,fz⟩:=h.facts;have HTX:Hid (Calls Tryz.prog 131 #[pv] W fun e w'=>e = .returned (.tuple #[.string (zAw path),.bool (allR path)])∧Below W.heap.size W w'):=zL1 pv path W hT h.row.row (by omega);have HTR:Hid (TrAt B W tb wb 0 pv yv path):=h;have HC3:Hid (∀w',Below W.heap.size W w'→w'.cell? ⟨tb,3,none⟩=some yv):=fun w' hb=>(HTR.out.below hb).facts.2.2.2.1
 have HY:Hid (∀w',Below W.heap.size W w'→YC yv (zAw path,weight) w' (zYr I X A pre (zAw path,weight) W)):=fun w' hb=>by
  refine(hY A pre (zAw path,weight) w' hPT (hI _ _ _ _ h0 (Upd.of_below hb)) (fun k hk=>Nat.lt_of_lt_of_le (hA k hk) hb.size)).mono ?_;rintro e w2 (⟨rfl,A',h1,h2,h3,h4⟩|⟨rfl,A',h1,h2,h3,h4⟩)
  · exact .inl ⟨rfl,A',⟨h1.1,fun k hk=>(h1.2 k hk).imp id (fun g=>Nat.le_trans hb.size g)⟩,h2,(Upd.of_below hb).trans h3 (fun _ _ h=>h),h4⟩
  · exact .inr ⟨rfl,A',⟨h1.1,fun k hk=>(h1.2 k hk).imp id (fun g=>Nat.le_trans hb.size g)⟩,h2,(Upd.of_below hb).trans h3 (fun _ _ h=>h),h4⟩
 obtain⟨R,hR⟩:∃R,zYr I X A pre (zAw path,weight) W=R:=⟨_,rfl⟩;rw[hR]at HY ⊢;have HRB:Hid (∀e w',R e w'→∃b,e = .returned (.bool b)):=fun e w' he=>by
  rw[←hR]at he;rcases he with⟨rfl,_⟩|⟨rfl,_⟩
  · exact⟨_,rfl⟩
  · exact⟨_,rfl⟩
 obtain⟨tx,htx⟩:∃tx,zAw path=tx:=⟨_,rfl⟩;rw[htx]at HY HTX;clear hI hY hPT hA h0 hT hR h htx;obtain⟨l,hyl⟩:∃l,yv = .func (.yield l) #[] #[]:=by obtain⟨l,h1,_⟩:=HY.out W (Below.refl _ _);exact⟨l,h1⟩
 subst hyl;have HYl:Hid (∀w',Below W.heap.size W w'→YieldAt Fence.wide 0 Tryz.prog l #[zS3 (tx,weight)] w' R):=fun w' hb=>by
  obtain⟨l',h1,h2⟩:=HY.out w' hb;cases h1;exact h2 0
 clear HY;have hdd:∀k:Nat,(Fence.wide.depth.isSome=true→1≤k):=fun k h=>by simp[Fence.wide]at h
 refine(callsIn_wide (n:=1)).1 ?_;refine callsIn_of_wp Tryz.func143 rfl trivial ?_ rfl;simp only[Tryz.ntmps143,List.size_toArray,List.length_cons,List.length_nil,Nat.reduceAdd,Nat.reduceSub,Array.replicate_succ,Array.replicate_zero,List.push_toArray,List.append_toArray,List.nil_append,List.cons_append]
 gi_wp2_with (first
  |(refine⟨trivial,?_⟩;gi_at_call 131;refine(callsIn_wide.2 HTX.out).mono ?_;rintro e w1 ⟨rfl,hb1⟩;have c3':=HC3.out w1 hb1;obtain⟨fn,tmps,asg,bd,hyy,hRr⟩:=HYl.out w1 hb1;simp only[zS3]at hyy;clear hb1)
  |(refine hRr.mono ?_;clear hRr;intro e w2 he;obtain⟨b,rfl⟩:=HRB.out e w2 he))
 exact he
end
section
open Go.RowKit Nums Fm Pk
structure VS(w0:World)(B tb wb:Nat)(yv:Value)(I:CI)(A:Nat→Prop)(pre:List Pr)(W:World)(k:Nat)(pv:Value)(path:List Int):Prop where
 bel:Below w0.heap.size w0 W
 tr:TrAt B W tb wb k pv yv path
 nt:¬A tb
 np:∀g,pv.ownBlock=some g→¬A g∧g≠tb
 lies:Lies A W
 loA:∀j,A j→w0.heap.size≤j
 inv:I A pre W
variable {w0:World} {B tb wb:Nat} {yv:Value} {I:CI} {A A':Nat→Prop} {pre pre':List Pr} {W W':World} {k:Nat} {pv:Value} {path:List Int}
theorem VS.below(h:VS w0 B tb wb yv I A pre W k pv path)(hI:zGf B I)(hb:Below W.heap.size W W'):VS w0 B tb wb yv I A pre W' k pv path:=
 ⟨h.bel.trans (hb.mono h.bel.size),h.tr.below hb,h.nt,h.np,fun j hj=>Nat.lt_of_lt_of_le (h.lies j hj) hb.size,h.loA,hI _ _ _ _ h.inv (Upd.of_below hb)⟩
theorem VS.cons(h:VS w0 B tb wb yv I A pre W k pv path)(he:Ext A A' W)(hl:Lies A' W')(hu:Upd A W W')(hi:I A' pre' W'):VS w0 B tb wb yv I A' pre' W' k pv path:=by
 have hlt:=h.tr.lt;refine⟨h.bel.trans (hu.below h.bel.size h.loA),h.tr.kept (hu.block tb hlt h.nt) (fun g hg=>hu.block g (GOwn.lt h.tr.row hg) (h.np g hg).1),fun ha=>(he.2 tb ha).elim h.nt (fun g=>by omega),fun g hg=>⟨fun ha=>(he.2 g ha).elim (h.np g hg).1 (fun h2=>by have:=GOwn.lt h.tr.row hg;omega),(h.np g hg).2⟩,hl,fun j hj=>(he.2 j hj).elim (h.loA j) (fun h2=>Nat.le_trans h.bel.size h2),hi⟩
theorem zBo(W:World)(tb o:Nat)(x:Value):Upd (fun j=>j=tb) W (W.setCell ⟨tb,o,none⟩ x):=by
 obtain⟨h1,h2,h3,h4⟩:=zA4 W tb o x;exact⟨h1,h2,h3,by omega,fun k _ hk=>Below.heap_setCell W ⟨tb,o,none⟩ x k hk⟩
theorem VS.skip(h:VS w0 B tb wb yv I A pre W k pv path)(hB:w0.heap.size≤B)(hI:zGf B I)(k2:Nat):VS w0 B tb wb yv I A pre (W.setCell ⟨tb,1,none⟩ (.int .i64 (k2:Int))) k2 pv path:=by
 have hu:=zBo W tb 1 (.int .i64 (k2:Int));have hlo:=h.tr.lo;refine⟨h.bel.trans (hu.below h.bel.size (fun j e=>by omega)),⟨hlo,by rw[zAt h.tr.blk];rfl,GOwn.same h.tr.row fun g hg=>hu.block g (GOwn.lt h.tr.row hg) (h.np g hg).2⟩,h.nt,h.np,fun j hj=>Nat.lt_of_lt_of_le (h.lies j hj) hu.size,h.loA,hI _ _ _ _ h.inv (hu.mono fun j e=>by subst e;exact⟨h.nt,hlo⟩)⟩
def NewP(W:World)(pv pv':Value):Prop:=pv'.ownBlock=pv.ownBlock∨∃g,pv'.ownBlock=some g∧W.heap.size≤g
theorem NewP.trans{W W':World}{a b c:Value}(h:NewP W a b)(h':NewP W' b c)(hs:W.heap.size≤W'.heap.size):NewP W a c:=by
 rcases h' with h'|⟨g,h1,h2⟩
 · rcases h with h|⟨g,h1,h2⟩
   · exact .inl (h'.trans h)
   · exact .inr ⟨g,h'.trans h1,h2⟩
 · exact .inr ⟨g,h1,Nat.le_trans hs h2⟩
theorem VS.push{V4:World}{pv':Value}{c:Int}(h:VS w0 B tb wb yv I A pre W k pv path)(hB:w0.heap.size≤B)(hI:zGf B I)(hb4:Below W.heap.size W V4)(hg:V4.grownBy W' pv.ownBlock)(ho:COwn B W' pv' (path++[c]))(hob:pv'.ownBlock=pv.ownBlock∨∃g,pv'.ownBlock=some g∧V4.heap.size≤g):
 VS w0 B tb wb yv I A pre (W'.setCell ⟨tb,2,none⟩ pv') k pv' (path++[c])∧Upd (fun j=>j=tb∨pv.ownBlock=some j) W (W'.setCell ⟨tb,2,none⟩ pv')∧NewP W pv pv'∧W'.cell? ⟨tb,2,none⟩=some pv∧W'.frozen? ⟨tb,2,none⟩=false:=by
 have hlt:=h.tr.lt;have hlo:=h.tr.lo;have hlt4:tb<V4.heap.size:=Nat.lt_of_lt_of_le hlt hb4.size;have hu1:Upd (fun j=>pv.ownBlock=some j) W W':=(Upd.of_below hb4).trans (G:=fun j=>pv.ownBlock=some j) ⟨hg.os,hg.tape,hg.output,hg.size,fun j hj hn=>hg.block j hj (fun e=>hn e.symm)⟩ (fun _ _ g=>g);have hnp:pv.ownBlock≠some tb:=fun e=>(h.np tb e).2 rfl
 have hblk:W'.heap[tb]?=some (.cells #[.pointer (some ⟨wb,0,none⟩),.int .i64 (k:Int),pv,yv] 197):=(hu1.block tb hlt hnp).trans h.tr.blk;have hu2:=zBo W' tb 2 pv';have hu:Upd (fun j=>j=tb∨pv.ownBlock=some j) W (W'.setCell ⟨tb,2,none⟩ pv'):=(hu1.mono fun j e => .inr e).trans (hu2.mono fun j e => .inl e) (fun _ _ g=>g);have hnew:∀g,pv'.ownBlock=some g→¬A g∧g≠tb:=fun g hg'=>by
  rcases hob with e|⟨g2,e,h2⟩
  · exact h.np g (e▸hg')
  · rw[e]at hg'
    cases hg';exact⟨fun ha=>by have:=h.lies g ha;have:=hb4.size;omega,by omega⟩
 refine⟨⟨h.bel.trans (hu.below h.bel.size fun j hj=>?_),⟨hlo,by rw[zAt hblk];rfl,GOwn.same ho fun g hg'=>hu2.block g (GOwn.lt ho hg') (hnew g hg').2⟩,h.nt,hnew,fun j hj=>Nat.lt_of_lt_of_le (h.lies j hj) hu.size,h.loA,hI _ _ _ _ h.inv (hu.mono fun j hj=>?_)⟩,hu,?_,by simp[World.cell?,hblk],by simp[World.frozen?,hblk]⟩
 · rcases hj with e|e
   · omega
   · exact Nat.le_trans hB (GOwn.block h.tr.row e).1
 · rcases hj with e|e
   · subst e;exact⟨h.nt,hlo⟩
   · exact⟨(h.np j e).1,(GOwn.block h.tr.row e).1⟩
 · rcases hob with e|⟨g2,e,h2⟩
   · exact .inl e
   · exact .inr ⟨g2,e,Nat.le_trans hb4.size h2⟩
theorem VS.pop{c:Int}(h:VS w0 B tb wb yv I A pre W k pv (path++[c]))(hB:w0.heap.size≤B)(hI:zGf B I):∃g cap,pv = .slice (some ⟨g,0,none⟩) (path.length+1) cap∧path.length+1≤cap ∧
 VS w0 B tb wb yv I A pre (W.setCell ⟨tb,2,none⟩ (.slice (some ⟨g,0,none⟩) path.length cap)) k (.slice (some ⟨g,0,none⟩) path.length cap) path:=by
 have hr:=h.tr.row;unfold COwn at hr;rw[List.map_append]at hr;obtain⟨g,cap,hv,hc,ho⟩:=GOwn.pop hr;rw[List.length_map]at hv hc ho;refine⟨g,cap,hv,hc,?_⟩;have hu:=zBo W tb 2 (.slice (some ⟨g,0,none⟩) path.length cap);have hlo:=h.tr.lo;have hgo:pv.ownBlock=some g:=by rw[hv];rfl
 refine⟨h.bel.trans (hu.below h.bel.size (fun j e=>by omega)),⟨hlo,by rw[zAt h.tr.blk];rfl,GOwn.same ho fun g' hg'=>?_⟩,h.nt,fun g' hg'=>?_,fun j hj=>Nat.lt_of_lt_of_le (h.lies j hj) hu.size,h.loA,hI _ _ _ _ h.inv (hu.mono fun j e=>by subst e;exact⟨h.nt,hlo⟩)⟩
 · cases hg'
   exact hu.block g (GOwn.lt ho rfl) (h.np g hgo).2
 · cases hg'
   exact h.np g hgo
def zOe(w0:World)(B tb wb:Nat)(yv:Value)(I X:CI)(A:Nat→Prop)(pre:List Pr)(W:World)(k:Nat)(pv:Value)(path:List Int)(L:List Pr)(e:Ending)(W':World):Prop:=
 (e = .returned (.bool true)∧∃A' pv',Ext A A' W∧Upd (fun j=>A j∨j=tb∨pv.ownBlock=some j) W W'∧VS w0 B tb wb yv I A' (pre++L.drop k) W' (k-L.length) pv' path∧NewP W pv pv') ∨
 (e = .returned (.bool false)∧∃q A',q<+:L.drop k∧Ext A A' W∧Lies A' W'∧Upd (fun j=>A j∨j=tb∨pv.ownBlock=some j) W W'∧X A' (pre++q) W')
def tw(path:List Int)(weight:Int)(R:List En):List Pr:=(ud path weight R).map prW
def tF(path:List Int)(weight:Int)(s:St):List Pr:=(udF path weight s).map prW
def tA(D:List (List En))(path:List Int)(weight:Int)(l:List Arc):List Pr:=(udA D path weight l).map prW
theorem zMi(D:List (List En))(s:St)(path:List Int)(weight:Int):tw path weight (exp D s)=tF path weight s++tA D path weight s.arcs:=by rw[tw,zQg,List.map_append];rfl
theorem zKo(D:List (List En))(path:List Int)(weight:Int){l:List Arc}{j:Nat}{a:Arc}(h:l[j]?=some a):tA D path weight (l.take (j+1))=tA D path weight (l.take j)++tw (path++[a.label]) (weight+a.out) (D[a.to]?.getD []):=by
 rw[List.take_add_one,h,tA];simp only[Option.toList_some];rw[udA_snoc,List.map_append];rfl
theorem tw_len(path:List Int)(weight:Int)(R:List En):(tw path weight R).length=R.length:=by rw[tw,List.length_map,zHv]
theorem zXs{X Y:List Pr}{k:Nat}(h:Y.length≤k-X.length):(X++Y).drop k=X.drop k:=by
 rw[List.drop_append,List.drop_eq_nil_of_le h,List.append_nil]
theorem zQ0{X Y Z q:List Pr}{k:Nat}(hq:q<+:Y.drop (k-X.length)):X.drop k++q<+:(X++Y++Z).drop k:=by
 obtain⟨t,ht⟩:=hq;rw[List.append_assoc,List.drop_append,List.drop_append,←ht];exact⟨t++Z.drop (k-X.length-Y.length),by simp[List.append_assoc]⟩
theorem zQi(D:List (List En))(path:List Int)(weight:Int)(l:List Arc)(i:Nat):tA D path weight l=tA D path weight (l.take i)++tA D path weight (l.drop i):=by
 conv=>lhs;rw[←List.take_append_drop i l]
 unfold tA udA;rw[List.flatMap_append,List.map_append]
theorem wrap_pl{pl:Nat}(h:pl<24):IntKind.i64.wrap (pl:Int)=(pl:Int):=by
 first|exact wrap_small _ (by omega) (by omega)|(rw[IntKind.wrap_i64];exact IntWalk.wrap64_in _ (by omega))|(rw[IntKind.wrap_i64];unfold wrap64;omega)
structure VL(w0:World)(B tb wb:Nat)(yv:Value)(I:CI)(A:Nat→Prop)(pre:List Pr)(Ws:World)(k:Nat)(pv:Value)(path:List Int)(L:List Pr)(A1:Nat→Prop)(pv1:Value)(wr:World):Prop where
 ext:Ext A A1 Ws
 upd:Upd (fun j=>A j∨j=tb∨pv.ownBlock=some j) Ws wr
 new:NewP Ws pv pv1
 vs:VS w0 B tb wb yv I A1 (pre++L.drop k) wr (k-L.length) pv1 path
variable {Ws wr W7 W8 W9:World} {L Y:List Pr} {A1 A2:Nat→Prop} {pv1 pv2 pv3:Value} {X:CI}
theorem VL.skip(h:VL w0 B tb wb yv I A pre Ws k pv path L A1 pv1 wr)(hB:w0.heap.size≤B)(hI:zGf B I)(hb7:Below wr.heap.size wr W7)(hy:Y.length≤k-L.length):VL w0 B tb wb yv I A pre Ws k pv path (L++Y) A1 pv1 (W7.setCell ⟨tb,1,none⟩ (.int .i64 ((k-L.length-Y.length:Nat):Int))):=by
 have hv:=(h.vs.below hI hb7).skip hB hI (k-L.length-Y.length);have e:k-(L++Y).length=k-L.length-Y.length:=by rw[List.length_append];omega
 refine⟨h.ext,(h.upd.trans (G:=fun j=>A j∨j=tb∨pv.ownBlock=some j) (Upd.of_below hb7) (fun _ _ g=>g)).trans (G:=fun j=>j=tb) (zBo _ _ _ _) (fun _ _ g => .inr (.inl g)),h.new,?_⟩;rw[zXs hy,e];exact hv
theorem VL.deep{c:Int}(h:VL w0 B tb wb yv I A pre Ws k pv path L A1 pv1 wr)(hB:w0.heap.size≤B)(hI:zGf B I)(hb7:Below wr.heap.size wr W7)(hu8:Upd (fun j=>j=tb∨pv1.ownBlock=some j) W7 W8)(hn8:NewP W7 pv1 pv2)(he9:Ext A1 A2 W8)(hu9:Upd (fun j=>A1 j∨j=tb∨pv2.ownBlock=some j) W8 W9)(hn9:NewP W8 pv2 pv3)
 (hv9:VS w0 B tb wb yv I A2 (pre++L.drop k++Y.drop (k-L.length)) W9 (k-L.length-Y.length) pv3 (path++[c])):∃g cap,pv3 = .slice (some ⟨g,0,none⟩) (path.length+1) cap∧path.length+1≤cap∧VL w0 B tb wb yv I A pre Ws k pv path (L++Y) A2 (.slice (some ⟨g,0,none⟩) path.length cap) (W9.drew.setCell ⟨tb,2,none⟩ (.slice (some ⟨g,0,none⟩) path.length cap)):=by
 have hbd:Below W9.heap.size W9 W9.drew:=(Below.refl _ W9).drew;obtain⟨g,cap,hv,hc,hvp⟩:=(hv9.below hI hbd).pop hB hI;refine⟨g,cap,hv,hc,?_⟩;have hs7:Ws.heap.size≤W7.heap.size:=Nat.le_trans h.upd.size hb7.size;have hs8:Ws.heap.size≤W8.heap.size:=Nat.le_trans hs7 hu8.size;have n1:NewP Ws pv pv2:=h.new.trans hn8 hs7;have n2:NewP Ws pv pv3:=n1.trans hn9 hs8;have e:k-(L++Y).length=k-L.length-Y.length:=by rw[List.length_append];omega
 have hp:∀{q:Value},NewP Ws pv q→∀j,j<Ws.heap.size→q.ownBlock=some j→pv.ownBlock=some j:=fun hn j hj hq=>by
  rcases hn with h1|⟨g,h1,h2⟩
  · exact h1▸hq
  · rw[h1]at hq;cases hq;omega
 refine⟨h.ext.trans he9 hs8,?_,?_,?_⟩
 · refine(((h.upd.trans (G:=fun j=>A j∨j=tb∨pv.ownBlock=some j) (Upd.of_below hb7) (fun _ _ g=>g)).trans hu8 (fun j hj g=>?_)).trans hu9 (fun j hj g=>?_)).trans (G:=fun j=>j=tb) ((Upd.of_below (F:=fun j=>j=tb) hbd).trans (zBo _ _ _ _) (fun _ _ g=>g)) (fun _ _ g => .inr (.inl g))
   · rcases g with g|g
     · exact .inr (.inl g)
     · exact .inr (.inr (hp h.new j hj g))
   · rcases g with g|g|g
     · exact(h.ext.2 j g).elim .inl (fun h2=>by omega)
     · exact .inr (.inl g)
     · exact .inr (.inr (hp n1 j hj g))
 · have:(Value.slice (some ⟨g,0,none⟩) path.length cap).ownBlock=pv3.ownBlock:=by rw[hv];rfl
   rcases n2 with h1|⟨g2,h1,h2⟩
   · exact .inl (this.trans h1)
   · exact .inr ⟨g2,this.trans h1,h2⟩
 · rw[List.drop_append,e,←List.append_assoc]
   exact hvp
theorem VL.stop(h:VL w0 B tb wb yv I A pre Ws k pv path L A1 pv1 wr)(hs:Below W.heap.size W Ws)(hb7:Below wr.heap.size wr W7)(hu8:Upd (fun j=>j=tb∨pv1.ownBlock=some j) W7 W8)(hn8:NewP W7 pv1 pv2)(he9:Ext A1 A2 W8)(hu9:Upd (fun j=>A1 j∨j=tb∨pv2.ownBlock=some j) W8 W9):Ext A A2 W∧Upd (fun j=>A j∨j=tb∨pv.ownBlock=some j) W W9:=by
 have hs7:Ws.heap.size≤W7.heap.size:=Nat.le_trans h.upd.size hb7.size;have hs8:Ws.heap.size≤W8.heap.size:=Nat.le_trans hs7 hu8.size;have n1:NewP Ws pv pv2:=h.new.trans hn8 hs7;have hp:∀{q:Value},NewP Ws pv q→∀j,j<Ws.heap.size→q.ownBlock=some j→pv.ownBlock=some j:=fun hn j hj hq=>by
  rcases hn with h1|⟨g,h1,h2⟩
  · exact h1▸hq
  · rw[h1]at hq;cases hq;omega
 have he:=h.ext.trans he9 hs8;refine⟨⟨he.1,fun j hj=>(he.2 j hj).imp id (fun g=>Nat.le_trans hs.size g)⟩,?_⟩;refine(Upd.of_below hs).trans (((h.upd.trans (G:=fun j=>A j∨j=tb∨pv.ownBlock=some j) (Upd.of_below hb7) (fun _ _ g=>g)).trans hu8 (fun j hj g=>?_)).trans hu9 (fun j hj g=>?_)) (fun _ _ g=>g)
 · rcases g with g|g
   · exact .inr (.inl g)
   · exact .inr (.inr (hp h.new j hj g))
 · rcases g with g|g|g
   · exact(h.ext.2 j g).elim .inl (fun h2=>by omega)
   · exact .inr (.inl g)
   · exact .inr (.inr (hp n1 j hj g))
theorem VL.out(h:VL w0 B tb wb yv I A pre Ws k pv path L A1 pv1 wr)(hs:Below W.heap.size W Ws):zOe w0 B tb wb yv I X A pre W k pv path L (.returned (.bool true)) wr:=by
 refine .inl ⟨rfl,A1,pv1,⟨h.ext.1,fun j hj=>(h.ext.2 j hj).imp id (fun g=>Nat.le_trans hs.size g)⟩,(Upd.of_below hs).trans h.upd (fun _ _ g=>g),h.vs,?_⟩;rcases h.new with h1|⟨g,h1,h2⟩
 · exact .inl h1
 · exact .inr ⟨g,h1,Nat.le_trans hs.size h2⟩
end
section
open Go.RowKit Nums Fm Pk
structure S7v(tb wb ab g off t:Nat)(ws:Value)(c:Nat)(W:World):Prop where
 c0:W.cell? ⟨tb,0,none⟩=some (.pointer (some ⟨wb,0,none⟩))
 c2:W.cell? ⟨wb,2,none⟩=some ws
 c3:W.cell? ⟨ab,2,none⟩=some (.int .i64 (t:Int))
 cx:W.cell? ⟨g,off+t,none⟩=some (.int .i64 (c:Int))
theorem S7v.facts{tb wb ab g off t:Nat}{ws:Value}{c:Nat}{W:World}(h:S7v tb wb ab g off t ws c W):W.cell? ⟨tb,0,none⟩=some (.pointer (some ⟨wb,0,none⟩))∧W.cell? ⟨wb,2,none⟩=some ws∧W.cell? ⟨ab,2,none⟩=some (.int .i64 (t:Int))∧W.cell? ⟨g,off+t,none⟩=some (.int .i64 (c:Int)):=⟨h.1,h.2,h.3,h.4⟩
structure S10v(tb ab:Nat)(pv:Value)(c:Int)(W:World):Prop where
 c2:W.cell? ⟨tb,2,none⟩=some pv
 ca:W.cell? ⟨ab,0,none⟩=some (.int .i32 c)
theorem S10v.facts{tb ab:Nat}{pv:Value}{c:Int}{W:World}(h:S10v tb ab pv c W):W.cell? ⟨tb,2,none⟩=some pv∧W.cell? ⟨ab,0,none⟩=some (.int .i32 c):=⟨h.1,h.2⟩
theorem zKm(w0:World)(B wb:Nat)(base:Int)(b:List St)(D:List (List En))(hI:Inv D b)(hR:Rests base D)(hWk:WkAt w0.heap.size w0 wb base (b.map ofSt) (D.map List.length))(hT0:Tabs w0)(hB:w0.heap.size≤B)(tb:Nat)(yv:Value)(I X:CI)(hMI:zGf B I)(T:List Pr)(hY:zYq T yv I X):
 ∀(N n:Nat),n<N→∀(A:Nat→Prop) (pre:List Pr) (W:World) (k:Nat) (pv:Value) (path:List Int) (weight:Int) (R:List En),D[n]?=some R→Tells base path weight R→VS w0 B tb wb yv I A pre W k pv path→pre++(tw path weight R).drop k<+:T→k≤9223372036854775807 →
  Calls Tryz.prog 115 #[.pointer (some ⟨tb,0,none⟩),.int .i64 (n:Int),.int .i64 weight] W (zOe w0 B tb wb yv I X A pre W k pv path (tw path weight R)):=by
 intro N
 induction N with
 |zero=>intro n hn;omega
 |succ N ih=>
 intro n hn A pre W k pv path weight R hRn hTe hVS hPT hk;have HPT:Hid (pre++(tw path weight R).drop k<+:T):=hPT;clear hPT
 have HIH:Hid (∀n,n<N→∀(A:Nat→Prop) (pre:List Pr) (W:World) (k:Nat) (pv:Value) (path:List Int) (weight:Int) (R:List En),D[n]?=some R→Tells base path weight R→VS w0 B tb wb yv I A pre W k pv path→pre++(tw path weight R).drop k<+:T→k≤9223372036854775807 →
  Calls Tryz.prog 115 #[.pointer (some ⟨tb,0,none⟩),.int .i64 (n:Int),.int .i64 weight] W (zOe w0 B tb wb yv I X A pre W k pv path (tw path weight R))):=ih
 clear ih;have HWK:Hid (WkAt w0.heap.size w0 wb base (b.map ofSt) (D.map List.length)):=hWk;have hDl:=hI.len;have hnD:=(List.getElem?_eq_some_iff.1 hRn).1;obtain⟨s,hs⟩:∃s,b[n]?=some s:=⟨b[n]'(by omega),List.getElem?_eq_getElem _⟩;have HBN:Hid (b[n]?=some s):=hs;obtain⟨r1,r2,r3⟩:=hI.row n s hs;have hRe:R=exp D s:=by rw[hRn]at r1;exact Option.some.inj r1
 have HRS:Hid (R=exp D s):=hRe;have HTE:Hid (Tells base path weight (exp D s)):=hRe▸hTe;obtain⟨nb,hnb⟩:∃nb,b.length=nb:=⟨_,rfl⟩;have HNB2:Hid (b.length=nb):=hnb;have HND:Hid (D.length=nb∧n<nb∧∀a∈s.arcs,a.to<n):=⟨by omega,by omega,r2⟩;have HNC:Hid ((D.map List.length).length=nb):=by show _=_;rw[List.length_map];omega
 obtain⟨sd,sc,wd,wc,q0,q1,q2,hSt,hG⟩:=hWk.facts;have hlen:(b.map ofSt).length=nb:=by rw[List.length_map,hnb]
 rw[hlen]at q1 hSt;obtain⟨gs,os,va,hsd,hgs,e0,e1,e2,hAr⟩:=hSt.at (k:=n) (s:=ofSt s) (by rw[List.getElem?_map,hs];rfl);subst hsd;obtain⟨vd,vc,hva⟩:=hAr.shape;obtain⟨na,hna⟩:∃na,s.arcs.length=na:=⟨_,rfl⟩;have HNA:Hid (s.arcs.length=na):=hna;have hna2:(ofSt s).arcs.length=na:=by show(s.arcs.map zAs).length=na;rw[List.length_map,hna]
 rw[hna2]at hva;subst hva;have HAA:Hid (ArcsAt w0.heap.size w0 (.slice vd na vc) (s.arcs.map zAs)):=hAr;have u0:W.cell? ⟨gs,os+n*3,none⟩=some (.bool s.final):=(hVS.bel.cell (p:=⟨gs,os+n*3,none⟩) hgs).trans e0;have u1:W.cell? ⟨gs,os+n*3+1,none⟩=some (.int .i64 s.out):=(hVS.bel.cell (p:=⟨gs,os+n*3+1,none⟩) hgs).trans e1;have u2:W.cell? ⟨gs,os+n*3+2,none⟩=some (.slice vd na vc):=(hVS.bel.cell (p:=⟨gs,os+n*3+2,none⟩) hgs).trans e2;have u3:W.cell? ⟨wb,1,none⟩=some (.slice (some ⟨gs,os,none⟩) nb sc):=(hVS.bel.cell (p:=⟨wb,1,none⟩) hWk.lt).trans q1;have hsl:=hSt.len;have hal:=hAr.len;rw[hna2]at hal;rw[List.length_map]at hsl;obtain⟨t0,t1,t2,t3,tf⟩:=hVS.tr.facts;have hnz:(n:Int)<(nb:Int):=by omega
 obtain⟨sb,hsb⟩:∃sb,sb=W.heap.size:=⟨_,rfl⟩;obtain⟨Ws,hWs⟩:∃Ws,Ws=W.alloc (.cells #[.bool s.final,.int .i64 s.out,.slice vd na vc] 56):=⟨_,rfl⟩;have hbs:Below W.heap.size W Ws:=by rw[hWs];exact(Below.refl _ W).alloc (Nat.le_refl _) _
 have hns:Ws.heap[sb]?=some (.cells #[.bool s.final,.int .i64 s.out,.slice vd na vc] 56):=by rw[hWs,hsb];exact zAb _ _
 have hvss:=hVS.below hMI hbs;have HVs:Hid (VS w0 B tb wb yv I A pre Ws k pv path):=hvss;have HWS:Hid (Below W.heap.size W Ws):=hbs;have HSB0:Hid (∀(F:Nat→Prop) (wr:World),Upd F Ws wr→¬F sb→wr.cell? ⟨sb,0,none⟩=some (.bool s.final)∧wr.cell? ⟨sb,1,none⟩=some (.int .i64 s.out)∧wr.cell? ⟨sb,2,none⟩=some (.slice vd na vc)):=fun F wr hu hF=>by
  have h1:=(hu.block sb (Array.getElem?_eq_some_iff.1 hns).1 hF).trans hns;exact⟨by simp[World.cell?,h1],by simp[World.cell?,h1],by simp[World.cell?,h1]⟩
 have HSN:Hid (¬(A sb∨sb=tb∨pv.ownBlock=some sb)):=by
  rintro(h1|h1|h1)
  · have:=hVS.lies sb h1;omega
  · have:=hVS.tr.lt;omega
  · have:=GOwn.lt hVS.tr.row h1;omega
 have HSB:Hid (∀wr,Upd (fun j=>A j∨j=tb∨pv.ownBlock=some j) Ws wr→wr.cell? ⟨sb,0,none⟩=some (.bool s.final)∧wr.cell? ⟨sb,1,none⟩=some (.int .i64 s.out)∧wr.cell? ⟨sb,2,none⟩=some (.slice vd na vc)):=fun wr hu=>HSB0.out _ wr hu HSN.out
 obtain⟨sc0,sc1,sc2⟩:=HSB.out Ws (Upd.refl _ _);clear hbs hns hvss hSt hG q0 q1 q2 e0 e1 e2 hAr hVS hTe hWk r1 r2 r3 hs hRn hRe hnb hna hna2 hlen hgs;go_enter Tryz.func115,Tryz.ntmps115;go_upto_region 2 with fail
 rw[←hsb,←hWs];clear hsb hWs u0 u1 u2 u3 t0 t1 t2 t3 tf;cases hfin:s.final
 focus
  rw[hfin]at sc0;have HL0:Hid (VL w0 B tb wb yv I A pre Ws k pv path (tF path weight s++tA D path weight (s.arcs.take 0)) A pv Ws):=by
   (have:tF path weight s++tA D path weight (s.arcs.take 0)=[]:=by unfold tF udF tA udA;rw[hfin];rfl);rw[this];exact⟨Ext.refl _ _,Upd.refl _ _,.inl rfl,by simpa using HVs.out⟩
  obtain⟨A2,HL0⟩:∃A2,Hid (VL w0 B tb wb yv I A pre Ws k pv path (tF path weight s++tA D path weight (s.arcs.take 0)) A2 pv Ws):=⟨A,HL0⟩;go_wp2
 rotate_left
 focus
  rw[hfin]at sc0;have hin:([],s.out)∈exp D s:=by unfold exp fins;rw[hfin];simp
  have hso:0≤s.out:=hR.nn _ (List.mem_of_getElem? (hI.row n s HBN.out).1) _ hin;have hsw:weight+s.out≤1048576:=HTE.out.wt _ hin;have hwlo:0≤weight:=HTE.out.lo;have hp24:path.length≤24:=by have:=HTE.out.ln _ hin;simpa using this
  have HTF:Hid (tF path weight s=[(zAw path,weight+s.out)]):=by show _=_;unfold tF udF;rw[hfin];rfl
  have HT0:Hid (tA D path weight (s.arcs.take 0)=[]):=rfl;by_cases hk0:k=0
  focus
   have htr:TrAt B Ws tb wb 0 pv yv path:=by have:=HVs.out.tr;rw[hk0]at this;exact this
   have HTN:Hid (Calls Tryz.prog 143 #[.pointer (some ⟨tb,0,none⟩),.int .i64 (weight+s.out)] Ws (zYr I X A pre (zAw path,weight+s.out) Ws)):=tell_now B Ws tb wb pv yv path (weight+s.out) htr (hT0.below HVs.out.bel) hp24 I X A pre hMI T hY (by
    refine List.IsPrefix.trans ?_ HPT.out;rw[HRS.out,zMi,HTF.out,hk0,List.drop_zero,List.prefix_append_right_inj];exact List.prefix_append _ _) HVs.out.lies HVs.out.inv
   have HX0:Hid (∀A2 W9,Ext A A2 Ws→Lies A2 W9→Upd A Ws W9→X A2 (pre++[(zAw path,weight+s.out)]) W9→zOe w0 B tb wb yv I X A pre W k pv path (tw path weight R) (.returned (.bool false)) W9):=fun A2 W9 he hl hu hx=>by
    refine .inr ⟨rfl,[(zAw path,weight+s.out)],A2,?_,⟨he.1,fun j hj=>(he.2 j hj).imp id (fun g=>Nat.le_trans HWS.out.size g)⟩,hl,(Upd.of_below HWS.out).trans (hu.mono fun j hj => .inl hj) (fun _ _ g=>g),hx⟩;rw[HRS.out,zMi,HTF.out,hk0,List.drop_zero];exact List.prefix_append _ _
   have HC0:Hid (∀A2 W2,Ext A A2 Ws→Lies A2 W2→Upd A Ws W2→I A2 (pre++[(zAw path,weight+s.out)]) W2→VL w0 B tb wb yv I A pre Ws k pv path (tF path weight s++tA D path weight (s.arcs.take 0)) A2 pv W2):=fun A2 W2 h1 h2 h3 h4=>by
    rw[HTF.out,HT0.out];have hv:=HVs.out.cons h1 h2 h3 h4;rw[hk0]at hv;exact⟨h1,h3.mono fun j hj => .inl hj,.inl rfl,by rw[hk0];exact hv⟩
   clear htr hk0;(go_upto_region 4 with(go_at_call 143;refine HTN.out.mono ?_;intro e W2 hp;rcases hp with⟨rfl,A2,he2,hl2,hu2,hi2⟩|⟨rfl,A2,he2,hl2,hu2,hx⟩;rotate_left;focus (have HFF:Hid (zOe w0 B tb wb yv I X A pre W k pv path (tw path weight R) (.returned (.bool false)) W2):=HX0.out A2 W2 he2 hl2 hu2 hx;clear he2 hl2 hu2 hx;go_wp2;go_ret;exact HFF.out)));obtain⟨sd0,sd1,sd2⟩:=HSB.out W2 (hu2.mono fun j hj => .inl hj);have HL0:Hid (VL w0 B tb wb yv I A pre Ws k pv path (tF path weight s++tA D path weight (s.arcs.take 0)) A2 pv W2):=HC0.out A2 W2 he2 hl2 hu2 hi2;clear he2 hl2 hu2 hi2 HX0 HC0 HTN;go_wp2
  rotate_left
  focus
   obtain⟨k2,hk2⟩:∃k2,k=k2+1:=⟨k-1,by omega⟩;(have htr:TrAt B Ws tb wb (k2+1) pv yv path:=by have:=HVs.out.tr;rw[hk2]at this;exact this);have HTS:Hid (Calls Tryz.prog 143 #[.pointer (some ⟨tb,0,none⟩),.int .i64 (weight+s.out)] Ws fun e W'=>e = .returned (.bool true)∧W'=Ws.setCell ⟨tb,1,none⟩ (.int .i64 (k2:Int))):=zUi B Ws tb wb k2 pv yv path (weight+s.out) htr (by omega);have hl1:VL w0 B tb wb yv I A pre Ws k pv path [] A pv Ws:=⟨Ext.refl _ _,Upd.refl _ _,.inl rfl,by simpa using HVs.out⟩;have hl2:=hl1.skip (Y:=tF path weight s) hB hMI (Below.refl _ _) (by rw[HTF.out];simp;omega);(have hkk:k-([]:List Pr).length-(tF path weight s).length=k2:=by rw[HTF.out];simp;omega);rw[hkk,List.nil_append]at hl2;obtain⟨W2,hW2⟩:∃W2,W2=Ws.setCell ⟨tb,1,none⟩ (.int .i64 (k2:Int)):=⟨_,rfl⟩;rw[←hW2]at hl2 HTS;obtain⟨A2,HL0⟩:∃A2,Hid (VL w0 B tb wb yv I A pre Ws k pv path (tF path weight s++tA D path weight (s.arcs.take 0)) A2 pv W2):=⟨A,by rw[HT0.out,List.append_nil];exact hl2⟩;obtain⟨sd0,sd1,sd2⟩:=HSB.out W2 hl2.upd;clear hl1 hl2 hW2 hk0 hk2 hkk htr;go_wp2_with (go_at_call 143;refine HTS.out.mono ?_;rintro e w2 ⟨rfl,hw2⟩;rw[hw2];clear hw2)
 all_goals
  go_loopg [9,10,36] na (fun gm _ _ s36 wr=>∃(j:Nat) (A1:Nat→Prop) (pv1:Value),s36 = .int .i64 j∧j≤na∧na-j≤gm∧Hid (VL w0 B tb wb yv I A pre Ws k pv path (tF path weight s++tA D path weight (s.arcs.take j)) A1 pv1 wr))
  case atStart=>exact⟨0,A2,pv,by go_num,Nat.zero_le _,by omega,HL0⟩
  case round=>
   obtain⟨j,A1,pv1,rfl,hj,hgm,HL⟩:=hrel;have hsb:=HSB.out wr HL.out.upd;obtain⟨sc0,sc1,sc2⟩:=hsb;by_cases hlt:j<na
   · have hltz:(j:Int)<(na:Int):=by omega
     obtain⟨a,ha⟩:∃a,s.arcs[j]?=some a:=⟨s.arcs[j]'(by have:=HNA.out;omega),List.getElem?_eq_getElem _⟩;obtain⟨HTL,hp24,hsum⟩:=Tells.arc hI hR HBN.out HTE.out (List.mem_of_getElem? ha);obtain⟨f1,f2,f3,f4⟩:=zDl hI hR HBN.out a (List.mem_of_getElem? ha);have hwlo:0≤weight:=HTE.out.lo;have HTT:Hid (Tells base (path++[a.label]) (weight+a.out) (D[a.to]?.getD [])):=HTL;have HF4:Hid (zC8 a.label=true):=f4;(have haD:a.to<D.length:=by have:=HND.out;omega);obtain⟨R1,hR1⟩:∃R1,D[a.to]?=some R1:=⟨D[a.to],List.getElem?_eq_getElem haD⟩;have HR1:Hid (D[a.to]?=some R1):=hR1;(have HG1:Hid (D[a.to]?.getD []=R1):=by show _=_;rw[hR1];rfl);have hAt:=HAA.out.below (HL.out.vs.bel);obtain⟨ga,oa,hva,hga,x0,x1,x2⟩:=hAt.at (k:=j) (a:=zAs a) (by rw[List.getElem?_map,ha];rfl);subst hva;have d0:wr.cell? ⟨ga,oa+j*3,none⟩=some (.int .i32 a.label):=x0;have d1:wr.cell? ⟨ga,oa+j*3+1,none⟩=some (.int .i64 a.out):=x1;have d2:wr.cell? ⟨ga,oa+j*3+2,none⟩=some (.int .i64 (a.to:Int)):=x2;clear x0 x1 x2;obtain⟨ab,hab⟩:∃ab,ab=wr.heap.size:=⟨_,rfl⟩;obtain⟨W6,hW6⟩:∃W6,W6=wr.alloc (.cells #[.int .i32 a.label,.int .i64 a.out,.int .i64 (a.to:Int)] 89):=⟨_,rfl⟩;(have hb6:Below wr.heap.size wr W6:=by rw[hW6];exact(Below.refl _ wr).alloc (Nat.le_refl _) _);(have hn6:W6.heap[ab]?=some (.cells #[.int .i32 a.label,.int .i64 a.out,.int .i64 (a.to:Int)] 89):=by rw[hW6,hab];exact zAb _ _);have hb7:Below wr.heap.size wr W6.drew:=hb6.drew;obtain⟨W7,hW7⟩:∃W7,W7=W6.drew:=⟨_,rfl⟩;rw[←hW7]at hb7;(have hn7:W7.heap[ab]?=some (.cells #[.int .i32 a.label,.int .i64 a.out,.int .i64 (a.to:Int)] 89):=by rw[hW7];exact hn6);have hvs7:=HL.out.vs.below hMI hb7;have HV7:Hid (VS w0 B tb wb yv I A1 (pre++(tF path weight s++tA D path weight (s.arcs.take j)).drop k) W7 (k-(tF path weight s++tA D path weight (s.arcs.take j)).length) pv1 path):=hvs7;obtain⟨kj,hkj⟩:∃kj,k-(tF path weight s++tA D path weight (s.arcs.take j)).length=kj:=⟨_,rfl⟩;have HKJ:Hid (k-(tF path weight s++tA D path weight (s.arcs.take j)).length=kj):=hkj;(have hkj2:kj≤k:=by omega);rw[hkj]at HV7;obtain⟨t0,t1,t2,t3,tf⟩:=HV7.out.tr.facts;have tf1:=tf 1;have tf2:=tf 2;have hwk:=HWK.out.below HV7.out.bel;obtain⟨sd,sc,wd,wc,q0,q1,q2,hSt,hG⟩:=hwk.facts;obtain⟨gw,ow,hwd,hgw,cw⟩:=hG.num (k:=a.to) (c:=R1.length) (by rw[List.getElem?_map,hR1];rfl);subst hwd;have HS7:Hid (S7v tb wb ab gw ow a.to (.slice (some ⟨gw,ow,none⟩) nb wc) R1.length W7):=⟨t0,by rw[←HNC.out];exact q2,by simp[World.cell?,hn7],cw⟩;(have ka0:W7.cell? ⟨ab,0,none⟩=some (.int .i32 a.label):=by simp[World.cell?,hn7]);(have ka1:W7.cell? ⟨ab,1,none⟩=some (.int .i64 a.out):=by simp[World.cell?,hn7]);(have ka2:W7.cell? ⟨ab,2,none⟩=some (.int .i64 (a.to:Int)):=by simp[World.cell?,hn7]);have HU7:Hid (Below wr.heap.size wr W7):=hb7;have HABn:Hid (ab<W7.heap.size∧wr.heap.size≤ab):=⟨(Array.getElem?_eq_some_iff.1 hn7).1,by omega⟩;have HN7:Hid (W7.heap[ab]?=some (.cells #[.int .i32 a.label,.int .i64 a.out,.int .i64 (a.to:Int)] 89)):=hn7;(have htz:(a.to:Int)<(nb:Int):=by have:=HNB2.out;have:=HND.out;omega);(have htz0:(0:Int)≤(a.to:Int):=by omega);clear hb6 hn6 hb7 hn7 hvs7 hwk hSt hG q0 q1 q2 cw hAt hkj hR1 HTL f4 hga hgw;(go_upto_region 7 with fail);rw[←hab,←hW6];clear hab d0 d1 d2 sc0 sc1 sc2;have hS7:=HS7.out;rw[hW7]at hS7;refine zAh (S:=S7v tb wb ab gw ow a.to (.slice (some ⟨gw,ow,none⟩) nb wc) R1.length) 12 rfl zAr hS7 (fun _=>?_);refine tq4 S7v.facts 0 40 1 41 2 42 3 43 ?_;simp only[sZa,sZb,sZc];refine tq4 S7v.facts 4 44 5 45 6 46 7 47 ?_;simp only[sZa,sZb,sZc];refine tq4 S7v.facts 8 48 9 49 10 50 11 10 ?_;simp only[sZa,sZb,sZc];refine wpAnyH_done (by kernel_rfl) ?_ _;rw[←hW7];clear hS7 HS7 hW7 hW6 htz;by_cases hsk:R1.length≤kj
     · have hskz:((R1.length:Nat):Int)≤(kj:Int):=by omega
       (have hsub:(kj:Int)-((R1.length:Nat):Int)=((kj-R1.length:Nat):Int):=by omega);have HNX:Hid (VL w0 B tb wb yv I A pre Ws k pv path (tF path weight s++tA D path weight (s.arcs.take (j+1))) A1 pv1 (W7.setCell ⟨tb,1,none⟩ (.int .i64 ((kj-R1.length:Nat):Int)))):=by
        have h1:=HL.out.skip (Y:=tw (path++[a.label]) (weight+a.out) (D[a.to]?.getD [])) hB hMI HU7.out (by rw[tw_len,HG1.out];have:=HKJ.out;omega);rw[tw_len,HG1.out,HKJ.out]at h1;rw[zKo D path weight ha,HG1.out,←List.append_assoc];exact h1
       (have hr63:R1.length≤9223372036854775807:=by omega);go_wp2;go_roundg (na-(j+1));(case measure=>omega);case rel=>exact⟨j+1,_,_,by go_num,by omega,Nat.le_refl _,HNX⟩
     · have hskz:¬((R1.length:Nat):Int)≤(kj:Int):=by omega
       obtain⟨pd,pn,pc,hpv⟩:∃pd pn pc,pv1 = .slice pd pn pc:=by
        obtain⟨ad,cap,e,_⟩:=GOwn.shape HV7.out.tr.row;exact⟨_,_,_,e⟩
       subst hpv;(go_upto_region 10 with fail);obtain⟨V3,hV3⟩:∃V3,V3=W7.drew:=⟨_,rfl⟩;(have hb3:Below W7.heap.size W7 V3:=by rw[hV3];exact(Below.refl _ W7).drew);obtain⟨V4,hV4⟩:∃V4,V4=V3.alloc (.cells #[.int .i32 a.label] 21):=⟨_,rfl⟩;(have hb34:Below V3.heap.size V3 V4:=by rw[hV4];exact(Below.refl _ V3).alloc (Nat.le_refl _) _);have hb4:Below W7.heap.size W7 V4:=hb3.trans (hb34.mono hb3.size);(have hn4:V4.heap[V3.heap.size]?=some (.cells #[.int .i32 a.label] 21):=by rw[hV4];exact zAb _ _);(have hBV:B≤V4.heap.size:=by have h1:=HV7.out.tr.lo;have h2:=HV7.out.tr.lt;have h3:=hb4.size;omega);obtain⟨v',W',hap,ho',hgr,hob⟩:=zAx rtyC (GOwn.below HV7.out.tr.row hb4) hBV (zYa a.label) (nb:=V3.heap.size) (fun i u hi=>by simp only[World.cell?,hn4];simpa[zJ9]using hi) (by rw[List.length_map];omega) 104 1;obtain⟨vd2,vn2,vc2,hvv2⟩:∃vd vn vc,v' = .slice vd vn vc:=by
        obtain⟨ad,cap,e,_⟩:=GOwn.shape ho';exact⟨_,_,_,e⟩
       subst hvv2;(have ho2:COwn B W' (.slice vd2 vn2 vc2) (path++[a.label]):=by unfold COwn;rw[List.map_append];exact ho');obtain⟨hv8,hu8,hn8,hc1,hfz⟩:=HV7.out.push hB hMI hb4 hgr ho2 hob;have hca:W'.cell? ⟨ab,0,none⟩=some (.int .i32 a.label):=by
        have h1:W'.heap[ab]?=V4.heap[ab]?:=hgr.block ab (by have h1:=HABn.out.1;have h2:=hb4.size;omega) (fun e=>by
         have h1:=GOwn.lt HL.out.vs.tr.row e.symm;have h2:=HABn.out.2;omega)
        have h2:V4.heap[ab]?=W7.heap[ab]?:=hb4.block ab HABn.out.1;simp[World.cell?,h1,h2,HN7.out]
       have hS0:S10v tb ab (.slice pd pn pc) a.label V3:=⟨by rw[hV3];exact t2,by rw[hV3];exact ka0⟩;have hS4:S10v tb ab (.slice pd pn pc) a.label V4:=⟨(hb34.cell (p:=⟨tb,2,none⟩) (by have h1:=HV7.out.tr.lt;have h2:=hb3.size;exact Nat.lt_of_lt_of_le h1 h2)).trans hS0.1,(hb34.cell (p:=⟨ab,0,none⟩) (by have h1:=HABn.out.1;have h2:=hb3.size;exact Nat.lt_of_lt_of_le h1 h2)).trans hS0.2⟩;have hS5:S10v tb ab (.slice pd pn pc) a.label W':=⟨hc1,hca⟩;obtain⟨W8,hW8⟩:∃W8,W8=W'.setCell ⟨tb,2,none⟩ (.slice vd2 vn2 vc2):=⟨_,rfl⟩;rw[←hW8]at hv8 hu8;have HAP2:Hid ((Builtin.append_ #[104,104] 104 #[.slice pd pn pc,.slice (some ⟨V3.heap.size,0,none⟩) 1 1]).run Tryz.prog V4 = .ok (.slice vd2 vn2 vc2) W'):=hap;have HV8:Hid (VS w0 B tb wb yv I A1 (pre++(tF path weight s++tA D path weight (s.arcs.take j)).drop k) W8 kj (.slice vd2 vn2 vc2) (path++[a.label])):=hv8;have HU8:Hid (Upd (fun i=>i=tb∨(Value.slice pd pn pc).ownBlock=some i) W7 W8):=hu8;have HN8:Hid (NewP W7 (.slice pd pn pc) (.slice vd2 vn2 vc2)):=hn8;have ca2:W8.cell? ⟨ab,1,none⟩=some (.int .i64 a.out)∧W8.cell? ⟨ab,2,none⟩=some (.int .i64 (a.to:Int)):=by
        have h1:W8.heap[ab]?=W7.heap[ab]?:=hu8.block ab HABn.out.1 (fun e=>by
         have h2:=HABn.out.2;have h3:=HL.out.vs.tr.lt;rcases e with e|e
         · omega
         · have h1:=GOwn.lt HL.out.vs.tr.row e
           omega)
        exact⟨by simp[World.cell?,h1,HN7.out],by simp[World.cell?,h1,HN7.out]⟩
       obtain⟨ca1,ca2⟩:=ca2
       have HREC:Hid (Calls Tryz.prog 115 #[.pointer (some ⟨tb,0,none⟩),.int .i64 (a.to:Int),.int .i64 (weight+a.out)] W8 (zOe w0 B tb wb yv I X A1 (pre++(tF path weight s++tA D path weight (s.arcs.take j)).drop k) W8 kj (.slice vd2 vn2 vc2) (path++[a.label]) (tw (path++[a.label]) (weight+a.out) R1))):=
        HIH.out a.to (by omega) A1 _ W8 kj (.slice vd2 vn2 vc2) (path++[a.label]) (weight+a.out) R1 HR1.out (by rw[←HG1.out];exact HTT.out) HV8.out (by
         refine List.IsPrefix.trans ?_ HPT.out;rw[List.append_assoc,List.prefix_append_right_inj,HRS.out,zMi,zQi D path weight s.arcs (j+1),zKo D path weight ha,HG1.out,←List.append_assoc,←List.append_assoc];exact zQ0 (by rw[HKJ.out];exact List.prefix_refl _)) (by omega)
       have hS0':S10v tb ab (.slice pd pn pc) a.label W7.drew:=hV3▸hS0;refine zBd (S:=S10v tb ab (.slice pd pn pc) a.label) 12 11 rfl zAr ?_;rw[←hV3];clear hS0' hap ho' hgr hob ho2 hv8 hu8 hn8 hc1 hca hb3 hb34 hb4 hn4 ka0 ka1 ka2 t0 t1 t2 t3;refine te4 S10v.facts 0 65 1 66 2 67 3 68 ?_;simp only[sZa,sZb,sZc];refine te2 S10v.facts 4 69 5 70 ?_;simp only[sZa,sZb,sZc];refine te S10v.facts 6 71 ?_;simp only[sZa,sZb,sZc];refine zAg (i:=7) (v := .slice (some ⟨V3.heap.size,0,none⟩) 1 1) (w':=V4) 72 (by kernel_rfl) rfl rfl (by rfl) (by rw[hV4];go_simp;first|done|exact rfl) hS4 ?_;simp only[sZa,sZb,sZc];refine zAg (i:=8) (v:=(.slice vd2 vn2 vc2)) (w':=W') 73 (by kernel_rfl) rfl rfl (by rfl) (zCj HAP2.out) hS5 ?_;simp only[sZa,sZb,sZc];refine zAg (i:=9) (v := .pointer (some ⟨tb,0,none⟩)) (w':=W') 74 (by kernel_rfl) rfl rfl (by rfl) (by kernel_rfl) hS5 ?_;simp only[sZa,sZb,sZc];refine zAg (i:=10) (v := .pointer (some ⟨tb,2,none⟩)) (w':=W') 75 (by kernel_rfl) rfl rfl (by rfl) (by kernel_rfl) hS5 ?_;simp only[sZa,sZb,sZc];have hc1:=hS5.1;refine zA6 (w':=W8) (by kernel_rfl) rfl rfl (by rfl) (by rw[hW8];go_simp;first|done|exact rfl) (by kernel_rfl) ?_;clear hc1 hfz hV4 hW8 hV3 hS0 hS4 hS5 HAP2 tf1 tf2;have HX:Hid (∀(q:List Pr) (A3:Nat→Prop) (W9:World),q<+:(tw (path++[a.label]) (weight+a.out) R1).drop kj→Ext A1 A3 W8→Lies A3 W9→Upd (fun i=>A1 i∨i=tb∨(Value.slice vd2 vn2 vc2).ownBlock=some i) W8 W9→X A3 (pre++(tF path weight s++tA D path weight (s.arcs.take j)).drop k++q) W9→zOe w0 B tb wb yv I X A pre W k pv path (tw path weight R) (.returned (.bool false)) W9):=fun q A3 W9 hq he9 hl9 hu9 hx=>by
        obtain⟨z1,z2⟩:=HL.out.stop HWS.out HU7.out HU8.out HN8.out he9 hu9;refine .inr ⟨rfl,(tF path weight s++tA D path weight (s.arcs.take j)).drop k++q,A3,?_,z1,hl9,z2,by rw[←List.append_assoc];exact hx⟩;rw[HRS.out,zMi,zQi D path weight s.arcs (j+1),zKo D path weight ha,HG1.out,←List.append_assoc,←List.append_assoc];exact zQ0 (by rw[HKJ.out];exact hq)
       (go_upto_region 13 with(go_at_call 115;refine HREC.out.mono ?_;intro e W9 hp;rcases hp with⟨rfl,A3,pv3,he9,hu9,hv9,hn9⟩|⟨rfl,q,A3,hq,he9,hl9,hu9,hx⟩;rotate_left;focus (have HFF:Hid (zOe w0 B tb wb yv I X A pre W k pv path (tw path weight R) (.returned (.bool false)) W9):=HX.out q A3 W9 hq he9 hl9 hu9 hx;clear hq he9 hl9 hu9 hx;go_wp2;go_ret;exact HFF.out)));obtain⟨g3,cap3,hpv3,hcap3,hVL⟩:=HL.out.deep (Y:=tw (path++[a.label]) (weight+a.out) R1) hB hMI HU7.out HU8.out HN8.out he9 hu9 hn9 (by rw[HKJ.out];exact hv9);subst hpv3;have HNX:Hid (VL w0 B tb wb yv I A pre Ws k pv path (tF path weight s++tA D path weight (s.arcs.take (j+1))) A3 (.slice (some ⟨g3,0,none⟩) path.length cap3) (W9.drew.setCell ⟨tb,2,none⟩ (.slice (some ⟨g3,0,none⟩) path.length cap3))):=by
        rw[zKo D path weight ha,HG1.out,←List.append_assoc];exact hVL
       obtain⟨_,_,y2,_,yf⟩:=hv9.tr.facts;have y2:W9.drew.cell? ⟨tb,2,none⟩=some (.slice (some ⟨g3,0,none⟩) (path.length+1) cap3):=y2;have yf2:W9.drew.frozen? ⟨tb,2,none⟩=false:=yf 2;obtain⟨pl,hpl⟩:∃pl,path.length=pl:=⟨_,rfl⟩;rw[hpl]at y2 HNX hcap3 hp24;clear hpl hVL hv9 he9 hu9 hn9 yf ca1 ca2 tf HREC HX HV8 HU8 HN8;obtain⟨W10,hW10⟩:∃W10,W10=W9.drew.setCell ⟨tb,2,none⟩ (.slice (some ⟨g3,0,none⟩) pl cap3):=⟨_,rfl⟩;rw[←hW10]at HNX;refine zBd (S:=fun W=>W.cell? ⟨tb,2,none⟩=some (.slice (some ⟨g3,0,none⟩) (pl+1) cap3)) 15 14 rfl zAr ?_;refine te4 id 0 85 1 86 2 87 3 88 ?_;simp only[sZa,sZb,sZc];refine te4 id 4 89 5 90 6 91 7 92 ?_;simp only[sZa,sZb,sZc];refine te2 id 8 93 9 94 ?_;simp only[sZa,sZb,sZc];refine zA9 (i:=10) (v := .int .i64 (pl:Int)) 95 rfl rfl (by kernel_rfl) (by kernel_rfl) (by kernel_rfl) (by kernel_rfl) (fun _ _ _ h=>h) (by rfl) (fun _ s=>by(have h:=id s;clear s;go_simp;exact wrap_pl hp24)) (by assumption) ?_;simp only[sZa,sZb,sZc];refine zA9 (i:=11) (v := .slice (some ⟨g3,0,none⟩) pl cap3) 96 rfl rfl (by kernel_rfl) (by kernel_rfl) (by kernel_rfl) (by kernel_rfl) (fun _ _ _ h=>h) (by rfl) (fun _ s=>by(have h:=id s;clear s;go_simp;first|done|(intro hcc;omega))) (by assumption) ?_;simp only[sZa,sZb,sZc];refine zAg (i:=12) (v := .pointer (some ⟨tb,0,none⟩)) (w':=W9.drew) 97 (by kernel_rfl) rfl rfl (by rfl) (by kernel_rfl) y2 ?_;simp only[sZa,sZb,sZc];refine zAg (i:=13) (v := .pointer (some ⟨tb,2,none⟩)) (w':=W9.drew) 98 (by kernel_rfl) rfl rfl (by rfl) (by kernel_rfl) y2 ?_;simp only[sZa,sZb,sZc];refine zA6 (w':=W10) (by kernel_rfl) rfl rfl (by rfl) (by rw[hW10];go_simp;first|done|exact rfl) (by kernel_rfl) ?_;clear hW10 y2 yf2;go_wp2;go_roundg (na-(j+1));(case measure=>omega);case rel=>exact⟨j+1,_,_,by go_num,by omega,Nat.le_refl _,HNX⟩
   · have hjn:j=na:=by omega
     (have hltz:¬(j:Int)<(na:Int):=by omega);subst hjn;clear HSB sc0 sc1 sc2;go_wp2;go_ret;(have e:tw path weight R=tF path weight s++tA D path weight (s.arcs.take j):=by rw[HRS.out,zMi,←HNA.out,List.take_length]);rw[e];exact HL.out.out HWS.out
theorem from_any(wb:Nat)(i:Int)(w:World):
 Calls Tryz.prog 80 #[.pointer (some ⟨wb,0,none⟩),.int .i64 i] w fun e w'=>e = .returned (.func (.func 114) #[] #[.pointer (some ⟨w.heap.size,0,none⟩),.pointer (some ⟨w.heap.size+1,0,none⟩)])∧∃t1 t2,w'=(w.alloc (.cells #[.pointer (some ⟨wb,0,none⟩)] t1)).alloc (.cells #[.int .i64 i] t2):=by
 go_enter Tryz.func80,Tryz.ntmps80;go_wp2;go_ret;exact⟨rfl,_,_,rfl⟩
structure WkOn(w0:World)(wb:Nat)(l:List Pr):Prop where
 ok:zAl l=0
 tabs:Tabs w0
 at':∃D,(l≠[]→MW l (zAf l).1 (zAf l).2 D)∧Inv D (zAf l).2∧WkAt w0.heap.size w0 wb (zAf l).1 ((zAf l).2.map ofSt) (D.map List.length)
theorem WkOn.below{w0 w1:World}{wb:Nat}{l:List Pr}(h:WkOn w0 wb l)(hb:Below w0.heap.size w0 w1):WkOn w1 wb l:=by
 obtain⟨D,h1,h2,h3⟩:=h.at';refine⟨h.ok,h.tabs.below hb,D,h1,h2,?_⟩;have h4:=h3.below hb;obtain⟨vs,vw,k1,k2,k3⟩:=h4.ex;obtain⟨xss,g1,g2,g3⟩:=k2.ex;exact⟨Nat.lt_of_lt_of_le h4.lt hb.size,vs,vw,k1,⟨⟨xss,g1.mono hb.size,g2,fun i s hi=>by obtain⟨va,e1,e2⟩:=g3 i s hi;exact⟨va,e1,⟨e2.row.mono hb.size,e2.ok,e2.len⟩⟩⟩,k2.ok,k2.len⟩,k3.mono hb.size⟩
structure FS(w0:World)(wb cw ci k:Nat)(A:Nat→Prop)(W:World):Prop where
 bel:Below w0.heap.size w0 W
 loA:∀j,A j→w0.heap.size≤j
 xw:W.cell? ⟨cw,0,none⟩=some (.pointer (some ⟨wb,0,none⟩))
 xi:W.cell? ⟨ci,0,none⟩=some (.int .i64 (k:Int))
 na:¬A cw
structure S2f(cw wb:Nat)(base:Int)(W:World):Prop where
 c0:W.cell? ⟨cw,0,none⟩=some (.pointer (some ⟨wb,0,none⟩))
 c1:W.cell? ⟨wb,0,none⟩=some (.int .i64 base)
theorem S2f.facts{cw wb:Nat}{base:Int}{W:World}(h:S2f cw wb base W):W.cell? ⟨cw,0,none⟩=some (.pointer (some ⟨wb,0,none⟩))∧W.cell? ⟨wb,0,none⟩=some (.int .i64 base):=⟨h.1,h.2⟩
theorem zLd{l:List Pr}(h:zAl l=0):l=[]∨(l≠[]∧∃n,(zAf l).2.length=n+1):=by
 by_cases hl:l=[]
 · exact .inl hl
 · obtain⟨D,M⟩:=mach_walk h hl
   exact .inr ⟨hl,(zAf l).2.length-1,by have:=List.length_pos_iff.2 M.ne;omega⟩
theorem from_seq(w0:World)(wb:Nat)(l:List Pr)(h:WkOn w0 wb l)(cw ci k:Nat)(hk:k≤9223372036854775807):
 SeqIs (FS w0 wb cw ci k) 114 #[.pointer (some ⟨cw,0,none⟩),.pointer (some ⟨ci,0,none⟩)] (l.drop k):=by
 intro yv I X A W hfn hS hMI hMX hY h0 hL;obtain⟨fn,cb,rfl⟩:=hfn;obtain⟨yv,hyv⟩:∃yv,yv=Value.func fn #[] cb:=⟨_,rfl⟩;rw[←hyv]at hY ⊢;show Calls Tryz.prog 114 #[yv,.pointer (some ⟨cw,0,none⟩),.pointer (some ⟨ci,0,none⟩)] W _;obtain⟨D,hMW,hInv,hWk⟩:=h.at';have HRT:Hid (∀W',Below w0.heap.size w0 W'→Calls Tryz.prog 61 #[.pointer (some ⟨wb,0,none⟩)] W' fun e w'=>e = .returned (.int .i64 ((((zAf l).2.map ofSt).length:Int)-1))∧w'=W'):=fun W' hW=>zHs _ W' wb _ _ _ (hWk.below hW)
 obtain⟨r1,r2,r3,r4,r5⟩:=hS;rcases zLd h.ok with hl|⟨hl,n,hn⟩
 · subst hl
   have HB:Hid (Below w0.heap.size w0 W):=r1;have HFIN:Hid ((∃A',Ext A A' W∧Lies A' W∧Upd A W W∧I A' (([]:List Pr).drop k) W)):=⟨A,Ext.refl _ _,hL,Upd.refl _ _,by rw[List.drop_nil];exact h0⟩;clear hMI hMX hY h0 hL r1 r2 hWk hMW hInv h;go_enter Tryz.func114,Tryz.ntmps114;go_wp2_with (go_at_call 61;refine(HRT.out _ HB.out).mono ?_;rintro e w1 ⟨rfl,hw1⟩;rw[hw1];clear hw1);(first|go_end0|go_returns);exact⟨⟨_,rfl⟩,.inl HFIN.out⟩
 · have hM:=hMW hl
   (have hnl:((zAf l).2.map ofSt).length=n+1:=by rw[List.length_map,hn]);rw[hnl]at HRT;(have hkz:((n+1:Nat):Int)-1=(n:Int):=by omega);rw[hkz]at HRT;obtain⟨sd,sc,wd,wc,q0,q1,q2,hSt,_⟩:=hWk.facts;have hsl:=hSt.len;rw[hnl]at hsl;(have hn63:n≤9223372036854775807:=by omega);obtain⟨tb,htb⟩:∃tb,tb=W.heap.size:=⟨_,rfl⟩;obtain⟨base,hbase⟩:∃base,(zAf l).1=base:=⟨_,rfl⟩;rw[hbase]at hM hWk q0;obtain⟨W1,hW1⟩:∃W1,W1=W.alloc (.cells #[.pointer (some ⟨wb,0,none⟩),.int .i64 (k:Int),.slice none 0 0,yv] 197):=⟨_,rfl⟩;(have hb1:Below W.heap.size W W1:=by rw[hW1];exact(Below.refl _ W).alloc (Nat.le_refl _) _);have hbd:Below W.heap.size W W1.drew:=hb1.drew;have hn1:W1.drew.heap[tb]?=some (.cells #[.pointer (some ⟨wb,0,none⟩),.int .i64 (k:Int),.slice none 0 0,yv] 197):=by rw[hW1,htb];exact zAb _ _
   have hvs:VS w0 W.heap.size tb wb yv I A [] W1.drew k (.slice none 0 0) []:=
    ⟨r1.trans (hbd.mono r1.size),⟨by omega,hn1,GOwn.nil _ _ _ _⟩,fun ha=>by have:=hL tb ha;omega,fun g hg=>(by cases hg),fun j hj=>Nat.lt_of_lt_of_le (hL j hj) hbd.size,r2,hMI _ _ _ _ h0 (Upd.of_below hbd)⟩
   (have htw:tw [] base (zAd (ents l))=l:=by rw[tw,hM.top,zVh (zB0 h.ok).wd]);have hvisit:=zKm w0 W.heap.size wb base (zAf l).2 D hM.inv hM.rst hWk h.tabs r1.size tb yv I X hMI (l.drop k) hY (n+1) n (by omega) A [] W1.drew k (.slice none 0 0) [] base (zAd (ents l)) (by have:=hM.root;rw[hn]at this;exact this) hM.tells hvs (by rw[htw,List.nil_append];exact List.prefix_refl _) hk;rw[htw]at hvisit;have HRW:Hid (Below w0.heap.size w0 W):=r1;have HRD:Hid (Below w0.heap.size w0 W1.drew):=r1.trans (hbd.mono r1.size);have hS2:S2f cw wb base W1.drew:=⟨(hbd.cell (p:=⟨cw,0,none⟩) (World.block_lt_of_cell? _ _ r3)).trans r3,(HRD.out.cell (p:=⟨wb,0,none⟩) hWk.lt).trans q0⟩;have hcwl:cw<W.heap.size:=World.block_lt_of_cell? _ _ r3;have hcwn:¬(A cw∨cw=tb∨(Value.slice none 0 0).ownBlock=some cw):=by
    rintro(g|g|g)
    · exact r5 g
    · omega
    · cases g
   have HVI:Hid (Calls Tryz.prog 115 #[.pointer (some ⟨tb,0,none⟩),.int .i64 (n:Int),.int .i64 base] W1.drew fun e W'=>∃bb,e = .returned (.bool bb)∧S2f cw wb base W'∧((∃A',Ext A A' W∧Lies A' W'∧Upd A W W'∧I A' (l.drop k) W')∨∃q A',q<+:l.drop k∧Ext A A' W∧Lies A' W'∧Upd A W W'∧X A' q W')):=by
    refine hvisit.mono ?_;have key:∀W',Upd (fun j=>A j∨j=tb∨(Value.slice none 0 0).ownBlock=some j) W1.drew W'→Upd A W W'∧S2f cw wb base W':=fun W' h2=>by
     have hbw:Below w0.heap.size w0 W':=HRD.out.trans (h2.below HRD.out.size (fun j g=>by
      rcases g with g|g|g
      · exact r2 j g
      · have:=r1.size;omega
      · cases g))
     refine⟨(Upd.of_below hbd).trans h2 (fun j hj g=>?_),(World.cell?_of_block (a:=⟨cw,0,none⟩) (h2.block cw (Nat.lt_of_lt_of_le hcwl hbd.size) hcwn)).trans hS2.1,(hbw.cell (p:=⟨wb,0,none⟩) hWk.lt).trans q0⟩;rcases g with g|g|g
     · exact g
     · omega
     · cases g
    rintro e W' (⟨rfl,A',pv',h1,h2,h3,h4⟩|⟨rfl,q,A',h0',h1,h2l,h2,h3⟩)
    · obtain⟨k1,k2⟩:=key W' h2
      exact⟨_,rfl,k2,.inl ⟨A',⟨h1.1,fun j hj=>(h1.2 j hj).imp id (fun g=>Nat.le_trans hbd.size g)⟩,h3.lies,k1,by simpa using h3.inv⟩⟩
    · obtain⟨k1,k2⟩:=key W' h2
      exact⟨_,rfl,k2,.inr ⟨q,A',h0',⟨h1.1,fun j hj=>(h1.2 j hj).imp id (fun g=>Nat.le_trans hbd.size g)⟩,h2l,k1,by simpa using h3⟩⟩
   subst hyv;clear hMI hMX hY h0 hL r1 r2 r5 hcwl hcwn hWk hMW hInv h hvs hvisit htw hM hSt q0 q1 q2 hb1 hbd hn1 hl hsl hbase hnl;go_enter Tryz.func114,Tryz.ntmps114;(go_upto_region 2 with(go_at_call 61;refine(HRT.out _ HRW.out).mono ?_;rintro e w1 ⟨rfl,hw1⟩;rw[hw1];clear hw1));rw[←hW1,←htb];clear hW1 htb;refine zAh (S:=S2f cw wb base) 8 rfl zAr hS2 (fun _=>?_);refine tq4 S2f.facts 0 12 2 14 3 15 4 16 ?_;simp only[sZa,sZb,sZc];refine tq2 S2f.facts 5 17 6 18 ?_;simp only[sZa,sZb,sZc];refine oc 1 W1.drew 13 61 #[.pointer (some ⟨wb,0,none⟩)] ?_;refine(HRT.out _ HRD.out).mono ?_;rintro e w1 ⟨rfl,hw1⟩;rw[hw1];clear hw1;refine⟨_,rfl,hS2,fun _=>?_⟩;simp only[sZa,sZb,sZc];refine oc 7 W1.drew 19 115 #[.pointer (some ⟨tb,0,none⟩),.int .i64 (n:Int),.int .i64 base] ?_;refine HVI.out.mono ?_;rintro e W' ⟨bb,rfl,hs2,hpost⟩;refine⟨_,rfl,hs2,fun _=>?_⟩;simp only[sZa,sZb,sZc];refine wpAnyH_done (by kernel_rfl) ?_ _
   go_end0
   exact⟨⟨_,rfl⟩,hpost⟩
end
section
open Go.RowKit Go.Shelf Nums Fm Pk
attribute [local go_sem] Oper.semAt_some
end
section
open Go.RowKit Nums Fm Pk
structure SLn(wb g off k:Nat)(ws:Value)(c:Nat)(W:World):Prop where
 c2:W.cell? ⟨wb,2,none⟩=some ws
 cx:W.cell? ⟨g,off+k,none⟩=some (.int .i64 (c:Int))
theorem SLn.facts{wb g off k:Nat}{ws:Value}{c:Nat}{W:World}(h:SLn wb g off k ws c W):W.cell? ⟨wb,2,none⟩=some ws∧W.cell? ⟨g,off+k,none⟩=some (.int .i64 (c:Int)):=⟨h.1,h.2⟩
theorem Len_any(E:Nat)(w:World)(wb:Nat)(base:Int)(m:List RSt)(cs:List Nat)(h:WkAt E w wb base m cs)(hcs:cs.length=m.length):
 Calls Tryz.prog 56 #[.pointer (some ⟨wb,0,none⟩)] w fun e w'=>e = .returned (.int .i64 ((cs.getD (m.length-1) 0:Nat):Int))∧Below w.heap.size w w':=by
 have HRT:Hid (∀W,WkAt E W wb base m cs→Calls Tryz.prog 61 #[.pointer (some ⟨wb,0,none⟩)] W fun e w'=>e = .returned (.int .i64 ((m.length:Int)-1))∧w'=W):=fun W hW=>zHs E W wb base m cs hW
 by_cases h0:m=[]
 · subst h0
   have HH:Hid (WkAt E w wb base [] cs):=h;have HC:Hid (cs=[]):=List.eq_nil_of_length_eq_zero hcs;clear h hcs;go_enter Tryz.func56,Tryz.ntmps56;go_wp2_with (go_at_call 61;refine(HRT.out _ HH.out).mono ?_;rintro e w1 ⟨rfl,hw1⟩;rw[hw1];clear hw1);go_ret;exact⟨by rw[HC.out];rfl,Below.refl _ _⟩
 · have hpos:=List.length_pos_iff.2 h0
   obtain⟨sd,sc,wd,wc,c0,c1,c2,hS,hG⟩:=h.facts;obtain⟨k,hk⟩:∃k,m.length=k+1:=⟨m.length-1,by omega⟩;obtain⟨c,hc⟩:∃c,cs[k]?=some c:=⟨cs[k]'(by omega),List.getElem?_eq_getElem _⟩;obtain⟨g,off,rfl,hg,cx⟩:=hG.num hc;have hl:=hS.len;have HW:Hid (WkAt E w wb base m cs):=h;have HWd:Hid (WkAt E w.drew wb base m cs):=h.below (Below.refl _ w).drew;have hS0:SLn wb g off k (.slice (some ⟨g,off,none⟩) cs.length wc) c w.drew:=⟨c2,cx⟩;have HCC:Hid (cs.getD (m.length-1) 0=c):=by
    show _=_;rw[hk,Nat.add_sub_cancel,List.getD_eq_getElem?_getD,hc];rfl
   have HBW:Hid (Below w.heap.size w w.drew):=(Below.refl _ w).drew;rw[hcs,hk]at hS0;rw[hk]at HRT;(have hkz:((k+1:Nat):Int)-1=(k:Int):=by omega);rw[hkz]at HRT;(have hl2:k+1≤9223372036854775807:=by omega);(have hkz2:(k:Int)<(k:Int)+1:=by omega);clear hG hS c0 c1 c2 cx h hl;go_enter Tryz.func56,Tryz.ntmps56;(go_upto_region 3 with(go_at_call 61;refine(HRT.out _ HW.out).mono ?_;rintro e w1 ⟨rfl,hw1⟩;rw[hw1];clear hw1));refine zAh (S:=SLn wb g off k (.slice (some ⟨g,off,none⟩) (k+1) wc) c) 9 rfl zAr hS0 (fun _=>?_);refine tq4 SLn.facts 0 6 1 7 2 8 3 9 ?_;simp only[sZa,sZb,sZc];refine tq SLn.facts 4 10 ?_;simp only[sZa,sZb,sZc];refine oc 5 w.drew 11 61 #[.pointer (some ⟨wb,0,none⟩)] ?_;refine(HRT.out _ HWd.out).mono ?_;rintro e w1 ⟨rfl,hw1⟩;subst hw1;refine⟨_,rfl,hS0,fun _=>?_⟩;simp only[sZa,sZb,sZc];refine tq2 SLn.facts 6 12 7 13 ?_;simp only[sZa,sZb,sZc];refine tq SLn.facts 8 2 ?_;simp only[sZa,sZb,sZc];clear hkz2;refine wpAnyH_done (by kernel_rfl) ?_ _;clear hS0;go_wp2;go_ret;exact⟨by rw[HCC.out];rfl,HBW.out⟩
structure FirstAt(n:Nat)(p:Nat→Bool)(r:Nat):Prop where
 le:r≤n
 lo:∀k,k<r→p k=false
 hi:∀k,r≤k→k<n→p k=true
end
section
open Go.RowKit Nums Fm Pk Pm
theorem LenW_any(w:World)(wb:Nat)(l:List Pr)(h:WkOn w wb l):
 Calls Tryz.prog 56 #[.pointer (some ⟨wb,0,none⟩)] w fun e w'=>e = .returned (.int .i64 (l.length:Int))∧Below w.heap.size w w':=by
 obtain⟨D,hM,hI,hW⟩:=h.at';have h1:=Len_any _ w wb _ _ _ hW (by rw[List.length_map,List.length_map,hI.len]);have e:(D.map List.length).getD (((zAf l).2.map ofSt).length-1) 0=l.length:=by
  rcases zLd h.ok with hl|⟨hl,n,hn⟩
  · subst hl
    have:D=[]:=by
     have:=hI.len;simpa[zAf]using this
    rw[this];rfl
  · have hr:=(hM hl).root
    rw[List.length_map,List.getD_eq_getElem?_getD,List.getElem?_map,hr];show(zAd (ents l)).length=_;simp[zAd,zAi,ents]
 rw[e]at h1;exact h1
end
section
open Go.RowKit Go.Shelf Nums Fm Pk
set_option maxRecDepth 1000000
shelf_lay_g SlLaysE0.n41 Slgn 41 at Tryz 87 as cloneAr
theorem zT0(l:List RArc):∀x∈l.map zBj,zG1 3 x:=fun x hx=>by
 obtain⟨a,_,rfl⟩:=List.mem_map.1 hx;exact⟨rfl,by simp[zBj,Value.oneCell']⟩
theorem zTo(E:Nat)(w:World)(l:List RArc)(va:Value)(h:ArcsAt E w va l)(hm:l.length≤1114112):
 Calls Tryz.prog 87 #[va] w fun e w'=>∃v',e = .returned v'∧(∃ad cap,v' = .slice ad l.length cap)∧ArcsAt w'.heap.size w' v' l∧(∀g,v'.ownBlock=some g→w.heap.size≤g∧g<w'.heap.size)∧Below w.heap.size w w':=by
 by_cases h0:l=[]
 · subst h0
   obtain⟨ad,cap,rfl⟩:=h.shape;(have hA:∀w' ad cap,ArcsAt w'.heap.size w' (.slice ad 0 cap) []:=fun w' ad cap=>⟨⟨ad,cap,rfl,fun h=>absurd h (by simp)⟩,fun a ha=>(by cases ha),(by simp)⟩);clear h;have HA:Hid (∀w' ad cap,ArcsAt w'.heap.size w' (.slice ad 0 cap) []):=hA;(have HB:Hid (∀o,Below w.heap.size w (w.alloc o)):=fun o=>(Below.refl _ w).alloc (Nat.le_refl _) o);clear hA;(have heq:∀W,(binOp .eql 54 (.slice ad 0 cap) (.slice none 0 0)).run Tryz.prog W = .ok (.bool ad.isNone) W:=fun W=>Lib.run_eql_slice_nil W _ _ ad 0 cap 0 0 rtyA.und);cases ad with
   |none=>
    go_enter Tryz.func87,Tryz.ntmps87;simp only[Option.isNone_none]at heq;go_wp2;go_ret;exact⟨_,rfl,⟨_,_,rfl⟩,HA.out _ _ _,fun g hg=>(by cases hg),Below.refl _ _⟩
   |some p=>
    go_enter Tryz.func87,Tryz.ntmps87;simp only[Option.isNone_some]at heq;go_wp2;go_ret;exact⟨_,rfl,⟨_,_,rfl⟩,HA.out _ _ _,fun g hg=>(by cases hg;exact⟨Nat.le_refl _,by simp⟩),HB.out _⟩
 · obtain⟨z,hz,hzs⟩:=rtyA.inf
   obtain⟨i,hi,hz0,hz1,hz2⟩:=info_parts hz;(have hsz:∀w,(Go.sizeOf 89).run Tryz.prog w = .ok 3 w:=fun w=>by simp[sizeOf,typeInfo,hi,hz1,Result.andThen]);have hcl:=zT0 l;(have hl3:∀x∈l.map zBj,x.length=3:=fun x hx=>(hcl x hx).1);have hpos:=List.length_pos_iff.2 h0;obtain⟨ad,cap,rfl,hc⟩:=h.row.ex;obtain⟨g,off,rfl,hg,hx⟩:=hc (by rw[List.length_map];exact hpos);have hcell:∀(j:Nat) u,(l.map zBj).flatten[j]?=some u→w.cell? ⟨g,off+j,none⟩=some u:=fun j u hj=>by
    obtain⟨i,c,x,rfl,h1,h2⟩:=zPh (l.map zBj) hl3 j u hj;have:=hx i c x u h1 h2
    rwa [Nat.add_assoc]at this
   have hone:∀u∈(l.map zBj).flatten,u.oneCell'=true:=fun u hu=>by
    obtain⟨x,hx,hux⟩:=List.mem_flatten.1 hu;exact(hcl x hx).2 u hux
   have hlen:(l.map zBj).length=l.length:=List.length_map _
   have hcall:Calls Tryz.prog 87 #[.slice (some ⟨g,off,none⟩) (l.map zBj).length cap] w fun e w'=>∃v',e = .returned v'∧w'.ownsRow w.heap.size 89 3 v' (l.map zBj).length (l.map zBj).flatten∧v' ≠ .slice none 0 0∧Below w.heap.size w w':=
    AnyE.slices_Clone cloneAr i z 3 24 hi hz0 hz1 hz2 hzs (by decide) hsz g off (l.map zBj).length cap (l.map zBj).flatten w (zIi _ hl3) (by unfold maxLen;omega) (by omega) hcell hone
   refine hcall.mono ?_;rintro e w' ⟨v',rfl,ho,hne,hb⟩;have hO:GOwn 89 3 w.heap.size w' v' (l.map zBj):=⟨hcl,ho⟩;obtain⟨ad',cap',hv,_⟩:=hO.shape;rw[hlen]at hv;exact⟨v',rfl,⟨ad',cap',hv⟩,⟨hO.reads,h.ok,h.len⟩,fun g hg=>⟨(hO.block hg).1,hO.lt hg⟩,hb⟩
theorem ArcsAt.upd{F:Nat→Prop}{E:Nat}{w w':World}{v:Value}{l:List RArc}(h:ArcsAt E w v l)(hu:Upd F w w')(hE:E≤w.heap.size)(hF:∀g,v.ownBlock=some g→¬F g):ArcsAt w'.heap.size w' v l:=by
 obtain⟨ad,cap,rfl,hc⟩:=h.row.ex;refine⟨⟨ad,cap,rfl,fun h0=>?_⟩,h.ok,h.len⟩;obtain⟨g,off,rfl,hg,hx⟩:=hc h0;have hl:=hu.size;exact⟨g,off,rfl,by omega,fun i j x u hi hj=>(World.cell?_of_block (a:=⟨g,off+i*3+j,none⟩) (hu.block g (by omega) (hF g rfl))).trans (hx i j x u hi hj)⟩
theorem zBn{F:Nat→Prop}{w W:World}(h:Upd F w W){b o:Nat}(x:Value)(hb:F b):Upd F w (W.setCell ⟨b,o,none⟩ x):=by
 obtain⟨h1,h2,h3,h4⟩:=zA4 W b o x;exact⟨h1.trans h.os,h2.trans h.tape,h3.trans h.output,by rw[h4];exact h.size,fun k hk hF=>(Below.heap_setCell W ⟨b,o,none⟩ x k (fun e=>hF (e▸hb))).trans (h.block k hk hF)⟩
theorem zTp{tmps:Array Value}{w:World}{qb:Nat}{a b c:Value}(h2:tmps.getD 2 undef = .pointer (some ⟨qb,0,none⟩))(c0:w.cell? ⟨qb,0,none⟩=some a)(c1:w.cell? ⟨qb,1,none⟩=some b)(c2:w.cell? ⟨qb,2,none⟩=some c):(results Tryz.f48 tmps).run Tryz.prog w = .ok (.agg #[a,b,c]) w:=by
 have h2':tmps[2]?.getD undef = .pointer (some ⟨qb,0,none⟩):=by simpa using h2
 simp[results,Tryz.results48,go_sem,h2',c0,c1,c2]
theorem zJ7(E:Nat)(w:World)(s:RSt)(va:Value)(h:ArcsAt E w va s.arcs)(hE:E≤w.heap.size)(hm:s.arcs.length≤1114112):
 Calls Tryz.prog 48 #[.agg #[.bool s.final,.int .i64 s.out,va]] w fun e w'=>∃v',e = .returned (.agg #[.bool s.final,.int .i64 s.out,v'])∧(∃ad cap,v' = .slice ad s.arcs.length cap)∧ArcsAt w'.heap.size w' v' s.arcs∧(∀g,v'.ownBlock=some g→w.heap.size≤g∧g<w'.heap.size)∧Below w.heap.size w w':=by
 obtain⟨ad,cap,hva⟩:=h.shape;obtain⟨n,hn⟩:∃n,s.arcs.length=n:=⟨_,rfl⟩;rw[hn]at hva;subst hva;obtain⟨W1,hW1⟩:∃W1,W1=(w.alloc (.cells #[.bool s.final,.int .i64 s.out,.slice ad n cap] 56)).alloc (.cells #[.bool false,.int .i64 0,.slice none 0 0] 56):=⟨_,rfl⟩;have hb1:Below w.heap.size w W1:=by rw[hW1];exact((Below.refl _ w).alloc (Nat.le_refl _) _).alloc (by simp) _
 have hs1:W1.heap.size=w.heap.size+2:=by rw[hW1];simp
 obtain⟨sb,hsb⟩:∃sb,sb=w.heap.size:=⟨_,rfl⟩;obtain⟨rb,hrb⟩:∃rb,rb=w.heap.size+1:=⟨_,rfl⟩;have hn1:W1.heap[sb]?=some (.cells #[.bool s.final,.int .i64 s.out,.slice ad n cap] 56):=by
  rw[hW1,hsb,(MapKept.heap_alloc _ _).2 _ (by simp)];exact zAb _ _
 have hr1:W1.heap[rb]?=some (.cells #[.bool false,.int .i64 0,.slice none 0 0] 56):=by
  have e:rb=(w.alloc (.cells #[.bool s.final,.int .i64 s.out,.slice ad n cap] 56)).heap.size:=by rw[hrb];simp
  rw[hW1,e];exact zAb _ _
 have HC:Hid (Calls Tryz.prog 87 #[.slice ad n cap] W1 fun e w'=>∃v',e = .returned v'∧(∃ad cap,v' = .slice ad s.arcs.length cap)∧ArcsAt w'.heap.size w' v' s.arcs∧(∀g,v'.ownBlock=some g→W1.heap.size≤g∧g<w'.heap.size)∧Below W1.heap.size W1 w'):=zTo E W1 s.arcs _ (h.below (hb1.mono hE)) hm;have c2:W1.cell? ⟨sb,2,none⟩=some (.slice ad n cap):=by simp[World.cell?,hn1]
 have HF:Hid (∀(w2:World) (x:Value),Below W1.heap.size W1 w2→w2.heap[sb]?=some (.cells #[.bool s.final,.int .i64 s.out,.slice ad n cap] 56)∧w2.heap[rb]?=some (.cells #[.bool false,.int .i64 0,.slice none 0 0] 56)):=fun w2 x hb=>⟨(hb.block sb (by omega)).trans hn1,(hb.block rb (by omega)).trans hr1⟩
 have HB1:Hid (Below w.heap.size w W1):=hb1;have HSZ:Hid (W1.heap.size=w.heap.size+2∧sb=w.heap.size∧rb=w.heap.size+1):=⟨hs1,hsb,hrb⟩;have hsr:sb≠rb:=by omega
 clear h hb1 hn1 hr1 hs1;go_enter Tryz.func48,Tryz.ntmps48;go_upto_region 1 with fail
 rw[←hrb,←hsb,←hW1];clear hsb hrb hW1;go_wp2_with (go_at_call 87;refine HC.out.mono ?_;rintro e w2 ⟨v',rfl,⟨ad2,cap2,rfl⟩,hA2,hg2,hb2⟩;obtain⟨k1,k2⟩:=HF.out w2 (.slice none 0 0) hb2;have z1:w2.cell? ⟨sb,0,none⟩=some (.bool s.final):=(by simp[World.cell?,k1]);have z2:w2.cell? ⟨sb,1,none⟩=some (.int .i64 s.out):=(by simp[World.cell?,k1]);have z3:w2.cell? ⟨sb,2,none⟩=some (.slice ad n cap):=(by simp[World.cell?,k1]);have y1:w2.cell? ⟨rb,0,none⟩=some (.bool false):=(by simp[World.cell?,k2]);have y2:w2.cell? ⟨rb,1,none⟩=some (.int .i64 0):=(by simp[World.cell?,k2]);have y3:w2.cell? ⟨rb,2,none⟩=some (.slice none 0 0):=(by simp[World.cell?,k2]);have f1:w2.frozen? ⟨sb,2,none⟩=false:=(by simp[World.frozen?,k1]);have f2:∀o,w2.frozen? ⟨rb,o,none⟩=false:=(fun o=>by simp[World.frozen?,k2]));obtain⟨W6,hW6⟩:∃W6,W6=(((w2.setCell ⟨sb,2,none⟩ (.slice ad2 n cap2)).setCell ⟨rb,0,none⟩ (.bool s.final)).setCell ⟨rb,1,none⟩ (.int .i64 s.out)).setCell ⟨rb,2,none⟩ (.slice ad2 n cap2):=⟨_,rfl⟩;have hu:Upd (fun j=>j=sb∨j=rb) w2 W6:=by
  rw[hW6];exact zBn (zBn (zBn (zBn (Upd.refl _ _) _ (.inl rfl)) _ (.inr rfl)) _ (.inr rfl)) _ (.inr rfl)
 have hr6:W6.heap[rb]?=some (.cells #[.bool s.final,.int .i64 s.out,.slice ad2 n cap2] 56):=by
  have e0:(w2.setCell ⟨sb,2,none⟩ (.slice ad2 n cap2)).heap[rb]?=some (.cells #[.bool false,.int .i64 0,.slice none 0 0] 56):=(Below.heap_setCell w2 ⟨sb,2,none⟩ _ rb (fun e=>hsr e.symm)).trans k2;rw[hW6,zAt (zAt (zAt e0 _) _) _];rfl
 rw[←hW6];obtain⟨hz1,hz2,hz3⟩:=HSZ.out;refine bodyPost_ret (zTp (a := .bool s.final) (b := .int .i64 s.out) (c := .slice ad2 n cap2) rfl (by simp[World.cell?,hr6]) (by simp[World.cell?,hr6]) (by simp[World.cell?,hr6])) rfl ?_;refine⟨_,rfl,⟨_,_,by rw[hn]⟩,?_,fun g hg=>?_,?_⟩
 · rw[hn]at hA2 hg2
   exact hA2.upd hu (Nat.le_refl _) (fun g hg e=>by have:=(hg2 g hg).1;rcases e with e|e<;>omega)
 · rw[hn]at hg2
   have h1:=hg2 g hg;have h2:=hu.size;omega
 · have h1:Below w.heap.size w w2:=HB1.out.trans (hb2.mono HB1.out.size)
   exact h1.trans (hu.below h1.size (fun j e=>by rcases e with e|e<;>omega))
structure CtAt(E:Nat)(w wr:World)(vw:Value)(cs:List Nat):Prop where
 own:GOwn 3 1 w.heap.size wr vw (cs.map zE4)
 bel:Below w.heap.size w wr
theorem CtAt.below{E:Nat}{w wr w':World}{vw:Value}{cs:List Nat}(h:CtAt E w wr vw cs)(hb:Below wr.heap.size wr w'):CtAt E w w' vw cs:=⟨h.own.below hb,h.bel.trans (hb.mono h.bel.size)⟩
def cnt(D:List (List En))(s:St)(j:Nat):Nat:=(if s.final then 1 else 0)+((s.arcs.take j).map fun a=>(D[a.to]?.getD []).length).sum
theorem cnt_snoc{D:List (List En)}{s:St}{j:Nat}{a:Arc}{R:List En}(ha:s.arcs[j]?=some a)(hR:D[a.to]?=some R):cnt D s (j+1)=cnt D s j+R.length:=by
 unfold cnt;rw[List.take_add_one,ha,Option.toList_some,List.map_append,List.sum_append];simp[hR];omega
theorem cnt_le{D:List (List En)}{s:St}(j:Nat):cnt D s j≤(exp D s).length:=by
 rw[zLp];unfold cnt;have:∀(l:List Nat) (j:Nat),(l.take j).sum≤l.sum:=fun l=>by
  induction l with
  |nil=>intro j;simp
  |cons x r ih=>
   intro j;cases j with
   |zero=>simp
   |succ j=>simp only[List.take_succ_cons,List.sum_cons];have:=ih j;omega
 have h2:=this (s.arcs.map fun a=>(D[a.to]?.getD []).length) j;rw[←List.map_take]at h2;omega
theorem zPo(E:Nat)(w:World)(b:List St)(D:List (List En))(hI:Inv D b)(hR:∀R∈D,R.length≤4096)(vs:Value)(h:StsAt E w vs (b.map ofSt))(hE:E≤w.heap.size)(hfew:b.length≤1048576):
 Calls Tryz.prog 49 #[vs] w fun e w'=>∃vw,e = .returned vw∧CtAt E w w' vw (D.map List.length):=by
 obtain⟨ad,cap,rfl⟩:=h.shape;obtain⟨nb,hnb⟩:∃nb,b.length=nb:=⟨_,rfl⟩;have HNB:Hid (b.length=nb):=hnb;have hlm:(b.map ofSt).length=nb:=by rw[List.length_map,hnb]
 have HR:Hid (StsAt E w (.slice ad nb cap) (b.map ofSt)):=by have:=h;rw[hlm]at this;exact this
 have hl:=h.len;obtain⟨cs,hcs⟩:∃cs,D.map List.length=cs:=⟨_,rfl⟩;have HCS:Hid (cs=D.map List.length):=hcs.symm;rw[hlm]at hl ⊢;rw[hcs];clear h hnb hlm hcs;go_enter Tryz.func49,Tryz.ntmps49;go_wp2
 go_loopg [3,5,6,8,11] nb (fun gm s3 _ _ _ s11 wr=>∃(k:Nat) (wd:Option Addr) (nw wc:Nat),s11 = .int .i64 k∧s3 = .slice wd nw wc∧k≤nb∧nb-k≤gm∧Hid (CtAt E w wr (.slice wd nw wc) (cs.take k)))
 case atStart=>exact⟨0,none,0,0,rfl,rfl,Nat.zero_le _,by omega,⟨GOwn.nil _ _ _ _,Below.refl _ _⟩⟩
 case round=>
  obtain⟨k,wd,nw,wc,rfl,rfl,hk,hgm,HCT0⟩:=hrel;by_cases hlt:k<nb
  · have hltz:(k:Int)<(nb:Int):=by omega
    obtain⟨s,hs⟩:∃s,b[k]?=some s:=⟨b[k]'(by have:=HNB.out;omega),List.getElem?_eq_getElem _⟩;have HBN:Hid (b[k]?=some s):=hs;obtain⟨g,off,va,hgd,hg,x0,x1,x2,hA⟩:=HR.out.at (k:=k) (s:=ofSt s) (by rw[List.getElem?_map,hs];rfl);obtain⟨vd,vc,hva⟩:=hA.shape;obtain⟨na,hna⟩:∃na,s.arcs.length=na:=⟨_,rfl⟩;have HNA:Hid (s.arcs.length=na):=hna;(have hna2:(ofSt s).arcs.length=na:=by show(s.arcs.map zAs).length=na;rw[List.length_map,hna]);rw[hna2]at hva;subst hva;subst hgd;have HAA:Hid (ArcsAt E w (.slice vd na vc) (s.arcs.map zAs)):=hA;have hal:=hA.len;rw[hna2]at hal;have hbl:=HCT0.out.bel;have u0:wr.cell? ⟨g,off+k*3,none⟩=some (.bool s.final):=(hbl.cell (p:=⟨g,off+k*3,none⟩) (Nat.lt_of_lt_of_le hg hE)).trans x0;have u1:wr.cell? ⟨g,off+k*3+1,none⟩=some (.int .i64 s.out):=(hbl.cell (p:=⟨g,off+k*3+1,none⟩) (Nat.lt_of_lt_of_le hg hE)).trans x1;have u2:wr.cell? ⟨g,off+k*3+2,none⟩=some (.slice vd na vc):=(hbl.cell (p:=⟨g,off+k*3+2,none⟩) (Nat.lt_of_lt_of_le hg hE)).trans x2;obtain⟨sb,hsb⟩:∃sb,sb=wr.heap.size:=⟨_,rfl⟩;obtain⟨W1,hW1⟩:∃W1,W1=wr.alloc (.cells #[.bool s.final,.int .i64 s.out,.slice vd na vc] 56):=⟨_,rfl⟩;(have hb1:Below wr.heap.size wr W1:=by rw[hW1];exact(Below.refl _ wr).alloc (Nat.le_refl _) _);(have hn1:W1.heap[sb]?=some (.cells #[.bool s.final,.int .i64 s.out,.slice vd na vc] 56):=by rw[hW1,hsb];exact zAb _ _);have HSB:Hid (∀wz,Below W1.heap.size W1 wz→wz.cell? ⟨sb,0,none⟩=some (.bool s.final)∧wz.cell? ⟨sb,1,none⟩=some (.int .i64 s.out)∧wz.cell? ⟨sb,2,none⟩=some (.slice vd na vc)):=fun wz hz=>by
     have h1:=(hz.block sb (Array.getElem?_eq_some_iff.1 hn1).1).trans hn1;exact⟨by simp[World.cell?,h1],by simp[World.cell?,h1],by simp[World.cell?,h1]⟩
    have HCT:Hid (CtAt E w W1 (.slice wd nw wc) (cs.take k)):=HCT0.out.below hb1;have HBW:Hid (Below w.heap.size w W1):=HCT.out.bel;obtain⟨sc0,sc1,sc2⟩:=HSB.out W1 (Below.refl _ _);clear hb1 hn1 hs x0 x1 x2 hA hna hna2 hbl;(go_upto_region 5 with fail);rw[←hsb,←hW1];clear hsb hW1 u0 u1 u2;cases hfin:s.final
    focus
     rw[hfin]at sc0;(have HC0:Hid (cnt D s 0=0):=by show _=_;unfold cnt;rw[hfin];rfl);go_wp2
    rotate_left
    focus
     rw[hfin]at sc0;(have HC0:Hid (cnt D s 0=1):=by show _=_;unfold cnt;rw[hfin];rfl);go_wp2
    all_goals
     go_loopg [6,8,20] na (fun gm s6 _ s20 wr=>∃(j:Nat),s20 = .int .i64 j∧s6 = .int .i64 ((cnt D s j:Nat):Int)∧j≤na∧na-j≤gm∧Hid (CtAt E w wr (.slice wd nw wc) (cs.take k))∧Hid (Below W1.heap.size W1 wr))
     case atStart=>exact⟨0,by go_num,by first|(rw[HC0.out];rfl)|(rw[HC0.out];go_num),Nat.zero_le _,by omega,HCT,Below.refl _ _⟩
     case round=>
      obtain⟨j,rfl,rfl,hj,hgj,HCZ,HBZ⟩:=hrel;clear sc0 sc1 sc2;obtain⟨sc0,sc1,sc2⟩:=HSB.out wr HBZ.out;have hc4:cnt D s j≤4096:=Nat.le_trans (cnt_le j) (hR _ (List.mem_of_getElem? (hI.row k s HBN.out).1));by_cases hjl:j<na
      · have hjz:(j:Int)<(na:Int):=by omega
        obtain⟨a,ha⟩:∃a,s.arcs[j]?=some a:=⟨s.arcs[j]'(by have:=HNA.out;omega),List.getElem?_eq_getElem _⟩;have hat:=(hI.row k s HBN.out).2.1 a (List.mem_of_getElem? ha);obtain⟨R1,hR1⟩:∃R1,D[a.to]?=some R1:=⟨D[a.to]'(by have:=hI.len;have:=HNB.out;omega),List.getElem?_eq_getElem _⟩;have hR4:R1.length≤4096:=hR _ (List.mem_of_getElem? hR1);obtain⟨ga,oa,hva,hga,x0,x1,x2⟩:=((HAA.out.below (HBW.out.mono hE)).below (HBZ.out.mono (Nat.le_trans hE HBW.out.size))).at (k:=j) (a:=zAs a) (by rw[List.getElem?_map,ha];rfl);have d0:wr.cell? ⟨ga,oa+j*3,none⟩=some (.int .i32 a.label):=x0;have d1:wr.cell? ⟨ga,oa+j*3+1,none⟩=some (.int .i64 a.out):=x1;have d2:wr.cell? ⟨ga,oa+j*3+2,none⟩=some (.int .i64 (a.to:Int)):=x2;subst hva;clear x0 x1 x2;obtain⟨ab,hab⟩:∃ab,ab=wr.heap.size:=⟨_,rfl⟩;obtain⟨W6,hW6⟩:∃W6,W6=wr.alloc (.cells #[.int .i32 a.label,.int .i64 a.out,.int .i64 (a.to:Int)] 89):=⟨_,rfl⟩;(have hb6:Below wr.heap.size wr W6:=by rw[hW6];exact(Below.refl _ wr).alloc (Nat.le_refl _) _);(have hn6:W6.heap[ab]?=some (.cells #[.int .i32 a.label,.int .i64 a.out,.int .i64 (a.to:Int)] 89):=by rw[hW6,hab];exact zAb _ _);have HC6:Hid (CtAt E w W6 (.slice wd nw wc) (cs.take k)):=HCZ.out.below hb6;have HB6:Hid (Below W1.heap.size W1 W6):=HBZ.out.trans (hb6.mono HBZ.out.size);obtain⟨gw,ow,hwd,hgw,cw⟩:=HC6.out.own.reads.num (k:=a.to) (c:=R1.length) (by rw[List.getElem?_take_of_lt hat,HCS.out,List.getElem?_map,hR1];rfl);have hnw:nw=k:=by
         obtain⟨_,_,e,_⟩:=HC6.out.own.shape;simp only[Value.slice.injEq,List.length_map,List.length_take]at e;have h1:=hI.len;have h2:=HNB.out;(have h3:cs.length=D.length:=by rw[HCS.out,List.length_map]);omega
        (have htz:(a.to:Int)<(nw:Int):=by omega);(have ka2:W6.cell? ⟨ab,2,none⟩=some (.int .i64 (a.to:Int)):=by simp[World.cell?,hn6]);(have HCN:Hid (((cnt D s j:Nat):Int)+((R1.length:Nat):Int)=((cnt D s (j+1):Nat):Int)):=by show _=_;rw[cnt_snoc ha hR1];omega);obtain⟨cj,hcj⟩:∃cj,cnt D s j=cj:=⟨_,rfl⟩;rw[hcj]at HCN hc4 ⊢;subst hwd;clear hb6 hn6 hgw hga hnw;(go_upto_region 11 with fail);rw[←hab,←hW6];clear hab hW6 d0 d1 d2 sc0 sc1 sc2;go_wp2;go_roundg (na-(j+1));(case measure=>omega);case rel=>exact⟨j+1,by go_num,by rw[HCN.out],by omega,Nat.le_refl _,HC6,HB6⟩
      · have hjn:j=na:=by omega
        subst hjn;(have hjz:¬(j:Int)<(j:Int):=by omega);have HO:Hid (GOwn 3 1 w.heap.size wr (.slice wd nw wc) ((cs.take k).map zE4)):=HCZ.out.own;obtain⟨cj,hcj⟩:∃cj,cnt D s j=cj:=⟨_,rfl⟩;have HCK:Hid (cs.take (k+1)=cs.take k++[cj]):=by
         show _=_;have e1:D[k]?=some (exp D s):=(hI.row k s HBN.out).1;have e2:cs[k]?=some cj:=by
          rw[HCS.out,List.getElem?_map,e1,←hcj];show some (exp D s).length=_;rw[zLp];unfold cnt;rw[←HNA.out,List.take_length]
         rw[List.take_add_one,e2];rfl
        have HLK:Hid (((cs.take k).map zE4).length<1099511627776):=by
         show _<_;rw[List.length_map,List.length_take];have:=HNB.out;omega
        have HBZ2:Hid (Below w.heap.size w wr):=HCZ.out.bel;rw[hcj]at hc4 ⊢;clear hcj;go_wp2_with (at_builtin;refine zC4 rtyN (by rfl) _ _ [.int .i64 (cj:Int)] _ rfl w.heap.size _ _ _ _ rfl HO.out rfl rfl ⟨rfl,by simp[Value.oneCell']⟩ HLK.out HBZ2.out.size ?_;intro v7 w7 ho7 hb7 hg7;obtain⟨a7,n7,c7,hv7⟩:∃a n c,v7=Value.slice a n c:=(by obtain⟨a,c,e,_⟩:=ho7.shape;exact⟨_,_,_,e⟩);subst hv7);go_roundg (nb-(k+1));(case measure=>omega);case rel=>exact⟨k+1,_,_,_,by go_num,rfl,by omega,Nat.le_refl _,⟨by rw[HCK.out,List.map_append];exact ho7,HBZ2.out.trans hb7⟩⟩
  · have hltz:¬(k:Int)<(nb:Int):=by omega
    go_wp2;go_ret;have e:cs.take k=cs:=List.take_of_length_le (by rw[HCS.out,List.length_map];have:=hI.len;have:=HNB.out;omega);exact⟨_,rfl,by rw[←e];exact HCT0.out⟩
end
section
open Go.RowKit Nums Fm Pk Pm
theorem zNm(a:RArc)(c:Int)(w:World):
 Calls Tryz.prog 128 #[.agg #[.int .i32 a.label,.int .i64 a.out,.int .i64 a.to],.int .i32 c] w fun e w'=>e = .returned (.int .i64 (cmpI a.label c))∧Below w.heap.size w w':=by
 obtain⟨W,hW⟩:∃W,W=w.alloc (.cells #[.int .i32 a.label,.int .i64 a.out,.int .i64 a.to] 89):=⟨_,rfl⟩;have hb:Below w.heap.size w W:=by rw[hW];exact(Below.refl _ w).alloc (Nat.le_refl _) _
 have c0:W.cell? ⟨w.heap.size,0,none⟩=some (.int .i32 a.label):=by rw[hW];simp
 have HB:Hid (Below w.heap.size w W):=hb;clear hb;go_enter Tryz.func128,Tryz.ntmps128;go_upto_region 1 with fail
 rw[←hW];clear hW;go_wp2_with (go_at_call 129;refine(zR0 a.label c W).mono ?_;rintro e w1 ⟨rfl,hw1⟩;rw[hw1];clear hw1);go_ret;exact⟨rfl,HB.out⟩
def zBq(l:List RArc)(k:Nat):Int:=(l.getD k ⟨0,0,0⟩).label
theorem zDs{l:List RArc}{k:Nat}{a:RArc}(h:l[k]?=some a):zBq l k=a.label:=by unfold zBq;rw[List.getD_eq_getElem?_getD,h];rfl
theorem zX3{x y:Int}:cmpI x y<0↔x<y:=by unfold cmpI;split<;>(try split)<;>omega
theorem zX4{x y:Int}:cmpI x y=0↔x=y:=by unfold cmpI;split<;>(try split)<;>omega
def hitB(l:List RArc)(c:Int)(r:Nat):Bool:=decide (r<l.length∧zBq l r=c)
theorem zW8{l:List RArc}{c:Int}{r:Nat}(h:r<l.length∧zBq l r=c):hitB l c r=true:=decide_eq_true h
theorem zW9{l:List RArc}{c:Int}{r:Nat}(h:¬(r<l.length∧zBq l r=c)):hitB l c r=false:=decide_eq_false h
theorem bsf_any(E:Nat)(w:World)(l:List RArc)(va:Value)(c:Int)(h:ArcsAt E w va l)(hE:E≤w.heap.size)(hs:∀a b,a<b→b<l.length→zBq l a<zBq l b)(hl:l.length≤1114112):
 Calls Tryz.prog 127 #[va,.int .i32 c,.func (.func 128) #[] #[]] w fun e w'=>∃r:Nat,e = .returned (.tuple #[.int .i64 (r:Int),.bool (hitB l c r)])∧FirstAt l.length (fun k=>decide (c≤zBq l k)) r∧Below w.heap.size w w':=by
 obtain⟨ad,cap,rfl⟩:=h.shape;obtain⟨n,hn⟩:∃n,l.length=n:=⟨_,rfl⟩;have HN:Hid (l.length=n):=hn;have HA:Hid (ArcsAt E w (.slice ad n cap) l):=by have:=h;rw[hn]at this;exact this
 have HS:Hid (∀a b,a<b→b<n→zBq l a<zBq l b):=by rw[←hn];exact hs
 rw[hn]at hl ⊢;clear h hs hn;go_enter Tryz.func127,Tryz.ntmps127;go_wp2
 go_loopg [9,10,11] n (fun gm s5 s6 _ wr=>∃(i j:Nat),s5 = .int .i64 i∧s6 = .int .i64 j∧i≤j∧j≤n∧j-i≤gm∧Hid ((∀k,k<i→zBq l k<c)∧∀k,j≤k→k<n→c≤zBq l k)∧Hid (Below w.heap.size w wr))
 case atStart=>exact⟨0,n,rfl,rfl,Nat.zero_le _,Nat.le_refl _,by omega,⟨fun k hk=>by omega,fun k h1 h2=>by omega⟩,Below.refl _ _⟩
 case round=>
  obtain⟨i,j,rfl,rfl,hij,hjn,hgm,HP,HB⟩:=hrel;by_cases hlt:i<j
  · have hltz:(i:Int)<(j:Int):=by omega
    obtain⟨h,hh⟩:∃h,h=(i+j)/2:=⟨_,rfl⟩;(have h1:i≤h:=by omega);(have h2:h<j:=by omega);(have HHZ:Hid (((i:Int)+(j:Int))/2=(h:Int)):=by show _=_;omega);obtain⟨a,ha⟩:∃a,l[h]?=some a:=⟨l[h]'(by have:=HN.out;omega),List.getElem?_eq_getElem _⟩;obtain⟨g,off,hg0,hg,d0,d1,d2⟩:=(HA.out.below (HB.out.mono hE)).at ha;subst hg0;have HC:Hid (Calls Tryz.prog 128 #[.agg #[.int .i32 a.label,.int .i64 a.out,.int .i64 a.to],.int .i32 c] wr fun e w'=>e = .returned (.int .i64 (cmpI a.label c))∧Below wr.heap.size wr w'):=zNm a c wr;have HLA:Hid (zBq l h=a.label):=zDs ha;(have hhn:(h:Int)<(n:Int):=by omega);clear hh ha;(go_upto_region 5 with fail);rw[HHZ.out];by_cases hc:a.label<c
    · have hcz:cmpI a.label c<0:=zX3.2 hc
      have HNX:Hid ((∀k,k<h+1→zBq l k<c)∧∀k,j≤k→k<n→c≤zBq l k):=⟨fun k hk=>(by
       by_cases e:k=h
       · rw[e,HLA.out];exact hc
       · have:=HS.out k h (by omega) (by omega);rw[HLA.out]at this;omega),HP.out.2⟩
      go_wp2_with (go_at_call 128;refine HC.out.mono ?_;rintro e w2 ⟨rfl,hb2⟩;have HB2:Hid (Below w.heap.size w w2):=HB.out.trans (hb2.mono HB.out.size);clear hb2);go_roundg (j-(h+1));(case measure=>omega);case rel=>exact⟨h+1,j,by go_num,by go_num,by omega,hjn,Nat.le_refl _,HNX,HB2⟩
    · have hcz:¬cmpI a.label c<0:=fun e=>hc (zX3.1 e)
      have HNX:Hid ((∀k,k<i→zBq l k<c)∧∀k,h≤k→k<n→c≤zBq l k):=⟨HP.out.1,fun k h3 h4=>(by
       by_cases e:k=h
       · rw[e,HLA.out];omega
       · have:=HS.out h k (by omega) h4;rw[HLA.out]at this;omega)⟩
      go_wp2_with (go_at_call 128;refine HC.out.mono ?_;rintro e w2 ⟨rfl,hb2⟩;have HB2:Hid (Below w.heap.size w w2):=HB.out.trans (hb2.mono HB.out.size);clear hb2);go_roundg (h-i);(case measure=>omega);case rel=>exact⟨i,h,by go_num,by go_num,h1,by omega,Nat.le_refl _,HNX,HB2⟩
  · have hltz:¬(i:Int)<(j:Int):=by omega
    (have hji:j=i:=by omega);subst hji;have HFA:Hid (FirstAt n (fun k=>decide (c≤zBq l k)) j):=⟨hjn,fun k hk=>decide_eq_false (by have:=HP.out.1 k hk;omega),fun k h1 h2=>decide_eq_true (HP.out.2 k h1 h2)⟩;by_cases hjl:j<n
    · have hjz:(j:Int)<(n:Int):=by omega
      obtain⟨a,ha⟩:∃a,l[j]?=some a:=⟨l[j]'(by have:=HN.out;omega),List.getElem?_eq_getElem _⟩;obtain⟨g,off,hg0,hg,d0,d1,d2⟩:=(HA.out.below (HB.out.mono hE)).at ha;subst hg0;have HC:Hid (Calls Tryz.prog 128 #[.agg #[.int .i32 a.label,.int .i64 a.out,.int .i64 a.to],.int .i32 c] wr fun e w'=>e = .returned (.int .i64 (cmpI a.label c))∧Below wr.heap.size wr w'):=zNm a c wr;have HLA:Hid (zBq l j=a.label):=zDs ha;have HDC:Hid (hitB l c j=(cmpI a.label c==0)):=by
       show _=_;by_cases e:a.label=c
       · rw[zW8 ⟨by have:=HN.out;omega,HLA.out.trans e⟩,zX4.2 e];rfl
       · rw[zW9 (fun g=>e (HLA.out.symm.trans g.2))]
         exact(beq_eq_false_iff_ne.2 (fun g=>e (zX4.1 g))).symm
      clear ha;go_wp2_with (go_at_call 128;refine HC.out.mono ?_;rintro e w2 ⟨rfl,hb2⟩;have HB2:Hid (Below w.heap.size w w2):=HB.out.trans (hb2.mono HB.out.size);clear hb2);go_ret2;exact⟨j,by rw[HDC.out];rfl,HFA.out,HB2.out⟩
    · have hjz:¬(j:Int)<(n:Int):=by omega
      go_wp2;go_ret2;have e:hitB l c j=false:=zW9 (fun g=>hjl (by have:=HN.out;have:=g.1;omega));exact⟨j,by rw[e];rfl,HFA.out,HB.out⟩
def arcV(a:RArc):Value := .agg #[.int .i32 a.label,.int .i64 a.out,.int .i64 a.to]
def zA:RArc:=⟨0,0,0⟩
def fa(l:List RArc)(c:Int):Option RArc:=l.find? fun a=>a.label==c
theorem fa_first{l:List RArc}{c:Int}{r:Nat}(hs:∀a b,a<b→b<l.length→zBq l a<zBq l b)(h:FirstAt l.length (fun k=>decide (c≤zBq l k)) r):(r<l.length∧zBq l r=c→∃a,l[r]?=some a∧fa l c=some a)∧(¬(r<l.length∧zBq l r=c)→fa l c=none):=by
 constructor
 · rintro⟨h1,h2⟩
   obtain⟨a,ha⟩:∃a,l[r]?=some a:=⟨l[r],List.getElem?_eq_getElem _⟩;refine⟨a,ha,?_⟩;unfold fa;rw[List.find?_eq_some_iff_getElem];have e:=zDs ha;obtain⟨h3,h4⟩:=List.getElem?_eq_some_iff.1 ha;refine⟨by rw[beq_iff_eq];omega,r,h3,h4,fun j hj=>?_⟩;have h5:=h.lo j hj;have h6:=of_decide_eq_false h5;rw[zDs (List.getElem?_eq_getElem (show j<l.length by omega))]at h6;simp only[Bool.not_eq_true',beq_eq_false_iff_ne];omega
 · intro hn
   unfold fa;rw[List.find?_eq_none];intro a ha he;obtain⟨j,hj,rfl⟩:=List.getElem_of_mem ha;have e:=zDs (List.getElem?_eq_getElem hj);(have he':l[j].label=c:=by simpa using he);rcases Nat.lt_trichotomy j r with g|g|g
   · have:=of_decide_eq_false (h.lo j g)
     omega
   · subst g
     exact hn ⟨hj,by omega⟩
   · have h1:=hs r j g hj
     have h2:=of_decide_eq_true (h.hi r (Nat.le_refl _) (by omega));omega
theorem zJ3{tmps:Array Value}{w:World}{qb:Nat}{a b c d:Value}(h2:tmps.getD 4 undef = .pointer (some ⟨qb,0,none⟩))(h5:tmps.getD 5 undef=d)(c0:w.cell? ⟨qb,0,none⟩=some a)(c1:w.cell? ⟨qb,1,none⟩=some b)(c2:w.cell? ⟨qb,2,none⟩=some c):(results Tryz.f90 tmps).run Tryz.prog w = .ok (.tuple #[.agg #[a,b,c],d]) w:=by
 have h2':tmps[4]?.getD undef = .pointer (some ⟨qb,0,none⟩):=by simpa using h2
 have h5':tmps[5]?.getD undef=d:=by simpa using h5
 simp[results,Tryz.results90,go_sem,h2',h5',c0,c1,c2]
theorem find_any(E:Nat)(w:World)(l:List RArc)(va:Value)(c:Int)(h:ArcsAt E w va l)(hE:E≤w.heap.size)(hs:∀a b,a<b→b<l.length→zBq l a<zBq l b)(hl:l.length≤1114112):
 Calls Tryz.prog 90 #[va,.int .i32 c] w fun e w'=>e = .returned (.tuple #[arcV ((fa l c).getD zA),.bool (fa l c).isSome])∧Below w.heap.size w w':=by
 obtain⟨ad,cap,rfl⟩:=h.shape;obtain⟨n,hn⟩:∃n,l.length=n:=⟨_,rfl⟩;obtain⟨qb,hqb⟩:∃qb,qb=w.heap.size:=⟨_,rfl⟩;obtain⟨W1,hW1⟩:∃W1,W1=w.alloc (.cells #[.int .i32 0,.int .i64 0,.int .i64 0] 89):=⟨_,rfl⟩;have hb1:Below w.heap.size w W1:=by rw[hW1];exact(Below.refl _ w).alloc (Nat.le_refl _) _
 have hn1:W1.heap[qb]?=some (.cells #[.int .i32 0,.int .i64 0,.int .i64 0] 89):=by rw[hW1,hqb];exact zAb _ _
 have HA:Hid (ArcsAt E W1 (.slice ad l.length cap) l):=h.below (hb1.mono hE);have HBS:Hid (Calls Tryz.prog 127 #[.slice ad l.length cap,.int .i32 c,.func (.func 128) #[] #[]] W1 fun e w'=>∃r:Nat,e = .returned (.tuple #[.int .i64 (r:Int),.bool (hitB l c r)])∧((r<l.length∧zBq l r=c→∃a,l[r]?=some a∧fa l c=some a)∧(¬(r<l.length∧zBq l r=c)→fa l c=none))∧Below W1.heap.size W1 w'):=by
  refine(bsf_any E W1 l _ c (h.below (hb1.mono hE)) (Nat.le_trans hE hb1.size) hs hl).mono ?_;rintro e w' ⟨r,rfl,h2,h3⟩;exact⟨r,rfl,fa_first hs h2,h3⟩
 have HB1:Hid (Below w.heap.size w W1):=hb1;have HN1:Hid (W1.heap[qb]?=some (.cells #[.int .i32 0,.int .i64 0,.int .i64 0] 89)):=hn1;have HN:Hid (l.length=n):=hn;rw[hn]at HBS HA hl ⊢;have HQ:Hid (qb=w.heap.size):=hqb;clear h hb1 hn1 hs hn;go_enter Tryz.func90,Tryz.ntmps90;go_upto_region 1 with fail
 rw[←hqb,←hW1];clear hqb hW1;go_upto_region 2 with(go_at_call 127;refine HBS.out.mono ?_;rintro e w2 ⟨r,rfl,hfr,hb2⟩;have HFR:Hid _:=hfr;have HB2:Hid (Below W1.heap.size W1 w2):=hb2;clear hfr hb2)
 have hk2:w2.heap[qb]?=some (.cells #[.int .i32 0,.int .i64 0,.int .i64 0] 89):=(HB2.out.block qb (Array.getElem?_eq_some_iff.1 HN1.out).1).trans HN1.out;have z0:w2.cell? ⟨qb,0,none⟩=some (.int .i32 0):=by simp[World.cell?,hk2]
 have z1:w2.cell? ⟨qb,1,none⟩=some (.int .i64 0):=by simp[World.cell?,hk2]
 have z2:w2.cell? ⟨qb,2,none⟩=some (.int .i64 0):=by simp[World.cell?,hk2]
 have f0:∀o,w2.frozen? ⟨qb,o,none⟩=false:=fun o=>by simp[World.frozen?,hk2]
 have HK2:Hid (w2.heap[qb]?=some (.cells #[.int .i32 0,.int .i64 0,.int .i64 0] 89)):=hk2;have hbw2:Below w.heap.size w w2:=HB1.out.trans (HB2.out.mono HB1.out.size);have HBW:Hid (Below w.heap.size w w2):=hbw2;have HEND:Hid (∀(a:RArc),((((w2.setCell ⟨qb,0,none⟩ (.int .i32 a.label)).setCell ⟨qb,1,none⟩ (.int .i64 a.out)).setCell ⟨qb,2,none⟩ (.int .i64 a.to)).heap[qb]?=some (.cells #[.int .i32 a.label,.int .i64 a.out,.int .i64 a.to] 89))∧Below w.heap.size w (((w2.setCell ⟨qb,0,none⟩ (.int .i32 a.label)).setCell ⟨qb,1,none⟩ (.int .i64 a.out)).setCell ⟨qb,2,none⟩ (.int .i64 a.to))):=fun a=>by
  refine⟨by rw[zAt (zAt (zAt hk2 _) _) _];rfl,hbw2.trans (Upd.below (F:=fun k=>k=qb) (zBn (F:=fun k=>k=qb) (zBn (F:=fun k=>k=qb) (zBn (F:=fun k=>k=qb) (Upd.refl _ _) _ rfl) _ rfl) _ rfl) hbw2.size (fun k e=>by have:=HQ.out;omega))⟩
 clear hk2 hbw2;by_cases hyes:r<l.length∧zBq l r=c
 · obtain⟨a,ha,hfa⟩:=HFR.out.1 (by rw[←HN.out];exact hyes)
   have HFA:Hid (fa l c=some a):=hfa;(have hrn:(r:Int)<(n:Int):=by have:=hyes.1;have:=HN.out;omega);obtain⟨g,off,hg0,hg,d0,d1,d2⟩:=(HA.out.below (HB2.out.mono (Nat.le_trans hE HB1.out.size))).at ha;subst hg0;rw[zW8 hyes];clear hfa ha hyes;go_wp2;obtain⟨e1,e2⟩:=HEND.out a;generalize ((w2.setCell ⟨qb,0,none⟩ (.int .i32 a.label)).setCell ⟨qb,1,none⟩ (.int .i64 a.out)).setCell ⟨qb,2,none⟩ (.int .i64 a.to)=W9 at e1 e2;refine bodyPost_ret (zJ3 (a := .int .i32 a.label) (b := .int .i64 a.out) (c := .int .i64 a.to) (d := .bool true) rfl rfl (by simp[World.cell?,e1]) (by simp[World.cell?,e1]) (by simp[World.cell?,e1])) rfl ?_;exact⟨by rw[HFA.out];rfl,e2⟩
 · have hfa:=HFR.out.2 (by rw[←HN.out];exact hyes)
   have HFA:Hid (fa l c=none):=hfa;rw[zW9 hyes];clear hfa hyes;go_wp2;obtain⟨e1,e2⟩:=HEND.out zA;simp only[zA]at e1 e2;generalize ((w2.setCell ⟨qb,0,none⟩ (.int .i32 0)).setCell ⟨qb,1,none⟩ (.int .i64 0)).setCell ⟨qb,2,none⟩ (.int .i64 0)=W9 at e1 e2;refine bodyPost_ret (zJ3 (a := .int .i32 0) (b := .int .i64 0) (c := .int .i64 0) (d := .bool false) rfl rfl (by simp[World.cell?,e1]) (by simp[World.cell?,e1]) (by simp[World.cell?,e1])) rfl ?_;exact⟨by rw[HFA.out];rfl,e2⟩
end
section
open Go.RowKit Nums Fm
theorem zUk{l:List Pr}{k:Nat}{x:Pr}(h:l[k]?=some x):l.take (k+1)=l.take k++[x]:=by
 rw[List.take_add_one,h];rfl
theorem zH1(w:World)(v:Value)(l:List Pr)(s:ByteArray)(h:PRow w v l)(hl:l.length≤9223372036854775807):
 Calls Tryz.prog 50 #[v,.string s] w fun e w'=>e = .returned (.tuple #[.int .i64 ((Pm.find l s).getD 0),.bool (Pm.find l s).isSome])∧w'=w:=by
 obtain⟨ad,cap,rfl⟩:=h.form;have HR:Hid (PRow w (.slice ad l.length cap) l):=h;obtain⟨n,hn⟩:∃n,l.length=n:=⟨_,rfl⟩;have HN:Hid (l.length=n):=hn;obtain⟨F,hF⟩:∃F,Pm.find l s=F:=⟨_,rfl⟩;have HF:Hid (Pm.find l s=F):=hF;rw[hn]at HR hl;clear h;rw[hn,hF];clear hn hF;go_enter Tryz.func50,Tryz.ntmps50;go_wp2
 go_loopg [6] n (fun g s6 wr=>∃(k:Nat),s6 = .int .i64 ((k:Int)-1)∧k≤n∧k≤g∧wr=w∧Hid (Pm.find (l.take k) s=F))
 case atStart=>exact⟨n,rfl,Nat.le_refl _,Nat.le_refl _,rfl,by show _=_;rw[List.take_of_length_le (by have:=HN.out;omega)];exact HF.out⟩
 case round=>
  obtain⟨k,rfl,hk,hg,rfl,HK⟩:=hrel;cases k with
  |zero=>
   (have HE:Hid (F=none):=by show _=_;rw[←HK.out];rfl);go_wp2;go_ret2;rw[HE.out];exact⟨rfl,rfl⟩
  |succ k=>
   (have e1:((k+1:Nat):Int)-1=(k:Int):=by omega);obtain⟨x,hx⟩:∃x,l[k]?=some x:=⟨l[k]'(by have:=HN.out;omega),List.getElem?_eq_getElem _⟩;obtain⟨b,off,rfl,hb,hcell⟩:=HR.out.at (by omega);obtain⟨c0,c1⟩:=hcell k x hx;(have hstep:Pm.find (l.take (k+1)) s=if x.1=s then some x.2 else Pm.find (l.take k) s:=by rw[zUk hx,Pm.find_snoc]);(have hk0:(0:Int)≤(k:Int):=by omega);(have hkn:(k:Int)<(n:Int):=by omega);(have ekn:(k:Int).toNat=k:=by omega);clear hx hcell;by_cases hxs:x.1=s
   · have hs:(x.1.toList==s.toList)=true:=by rw[zFm];exact decide_eq_true hxs
     (have HE:Hid (F=some x.2):=by show _=_;rw[←HK.out,hstep,if_pos hxs]);clear hxs hstep;go_wp2;go_ret2;rw[HE.out];exact⟨rfl,rfl⟩
   · have hs:(x.1.toList==s.toList)=false:=by rw[zFm];exact decide_eq_false hxs
     (have HE:Hid (Pm.find (l.take k) s=F):=by show _=_;rw[←HK.out,hstep,if_neg hxs]);clear hxs hstep;go_wp2;go_roundg k;(case measure=>omega);case rel=>exact⟨k,by first|rfl|go_num,by omega,Nat.le_refl _,rfl,HE⟩
theorem zNl{l:List Pr}{x:Pr}(h:x∈l):Pm.find l x.1≠none:=by
 induction l with
 |nil=>cases h
 |cons y r ih=>
  rw[Pm.find_cons];rcases List.mem_cons.1 h with rfl|h
  · cases Pm.find r x.1<;>simp
  · cases hf:Pm.find r x.1 with
    |none=>exact absurd hf (ih h)
    |some v=>simp
theorem zT8:∀{S:List En} {xs:List Int} {n:Int},wt xs S=some n→(xs,n)∈S
 |[],_,_,h=>by cases h
 |e::r,xs,n,h=>by
  rw[zGg]at h
  split at h
  · rename_i he
    have:e=(xs,n):=Prod.ext he (Option.some.inj h);rw[this];simp
  · exact .tail _ (zT8 h)
theorem find_wt{l:List Pr}(hd:DictOk l){s:ByteArray}{xs:List Int}(hs:rs s.data.toList=some xs):Pm.find l s=wt xs (ents l):=by
 cases hf:Pm.find l s with
 |some v=>
  have hm:=Pm.find_mem hf;exact(wt_mem hd.rise (List.mem_map.2 ⟨(s,v),hm,by rw[zCx,hs];rfl⟩)).symm
 |none=>
  cases hw:wt xs (ents l)with
  |none=>rfl
  |some n=>
   exfalso;obtain⟨x,hx,he⟩:=List.mem_map.1 (zT8 hw);obtain⟨ys,h1,_⟩:=hd.wd x hx;rw[zCx,h1]at he;have hy:ys=xs:=(Prod.mk.inj he).1;subst hy;have e1:=(zEo h1).2;have e2:=(zEo hs).2;have:x.1=s:=zYj (e1.symm.trans e2);rw[←this]at hf;exact zNl hx hf
end
section
open Go.RowKit Nums Fm Pk Pm
theorem zAp{l:List Pr}(h:zAl l=0):(∀x∈l,zAq x.1.data.toList=true∧1≤x.2∧x.2≤1048576)∧l.Pairwise (fun a b=>zAa a.1 b.1=true)∧l.length≤4096:=by
 unfold zAl at h
 split at h
 · cases h
 · exact⟨zF6 l none h,(zGx l none h).2,by omega⟩
theorem zPi{l:List Pr}(h:zAl l=0){s:ByteArray}(hs:zAq s.data.toList=false):Pm.find l s=none:=by
 cases hf:Pm.find l s with
 |none=>rfl
 |some v=>
  have:=((zAp h).1 _ (Pm.find_mem hf)).1;rw[hs]at this;cases this
theorem zYk{D:List (List En)}{b:List St}(hI:Inv D b){n:Nat}{s:St}(hs:b[n]?=some s):∀a c,a<c→c<(s.arcs.map zAs).length→zBq (s.arcs.map zAs) a<zBq (s.arcs.map zAs) c:=fun a c hac hc=>by
 have hl:c<s.arcs.length:=by simpa using hc
 have h1:=List.pairwise_iff_getElem.1 (hI.row n s hs).2.2.lab a c (by omega) hl hac;rw[zDs (a:=zAs s.arcs[a]) (by rw[List.getElem?_map,List.getElem?_eq_getElem (by omega)];rfl),zDs (a:=zAs s.arcs[c]) (by rw[List.getElem?_map,List.getElem?_eq_getElem hl];rfl)];exact h1
theorem zLz{l:List Pr}(h:zAl l=0){n:Nat}{s:St}(hs:(zAf l).2[n]?=some s):(s.arcs.map zAs).length≤1114112:=by
 have h1:=zIt h;unfold Pk.rightB at h1
 split at h1
 · rename_i h2
   (have:(zAf l).2=[]:=by simpa using h2);rw[this]at hs;simp at hs
 · simp only[Bool.and_eq_true]at h1
   obtain⟨⟨⟨⟨⟨_,_⟩,hf⟩,_⟩,_⟩,_⟩:=h1;have key:∀(m:List RSt) (i k:Nat) (t:RSt),zBg i m=true→m[k]?=some t→zI9 t (i+k)=true:=fun m=>by
    induction m with
    |nil=>intro i k t _ hk;simp at hk
    |cons x r ih=>
     intro i k t hf hk;rw[zBg,Bool.and_eq_true]at hf;cases k with
     |zero=>simp at hk;subst hk;exact hf.1
     |succ k=>have:=ih (i+1) k t hf.2 (by simpa using hk);rwa [show i+1+k=i+(k+1)by omega]at this
   have h3:=key _ 0 n (ofSt s) hf (by rw[List.getElem?_map,hs];rfl);exact(zEu h3).2.2
theorem wrap_sum{x y:Int}(h1:1≤x)(h2:x≤1048576)(h3:0≤y)(h4:y≤1048576):IntKind.i64.wrap (x+y)=x+y:=by
 first|exact wrap_small _ (by omega) (by omega)|(rw[IntKind.wrap_i64];exact IntWalk.wrap64_in _ (by omega))|(rw[IntKind.wrap_i64];unfold wrap64;omega)
structure S11(ab:Nat)(o t:Int)(W:World):Prop where
 c1:W.cell? ⟨ab,1,none⟩=some (.int .i64 o)
 c2:W.cell? ⟨ab,2,none⟩=some (.int .i64 t)
theorem S11.facts{ab:Nat}{o t:Int}{W:World}(h:S11 ab o t W):W.cell? ⟨ab,1,none⟩=some (.int .i64 o)∧W.cell? ⟨ab,2,none⟩=some (.int .i64 t):=⟨h.1,h.2⟩
def S4b(wb:Nat)(base:Int)(W:World):Prop:=W.cell? ⟨wb,0,none⟩=some (.int .i64 base)
theorem S4b.facts{wb:Nat}{base:Int}{W:World}(h:S4b wb base W):W.cell? ⟨wb,0,none⟩=some (.int .i64 base):=h
theorem fa_arcs{l:List Arc}{c:Int}(h:fa (l.map zAs) c=none):∀a∈l,a.label≠c:=fun a ha e=>by
 unfold fa at h;rw[List.find?_eq_none]at h;have:=h (zAs a) (List.mem_map.2 ⟨a,ha,rfl⟩);exact this (by rw[beq_iff_eq];exact e)
theorem fa_arc{l:List Arc}{c:Int}{x:RArc}(h:fa (l.map zAs) c=some x):∃a∈l,a.label=c∧x=zAs a:=by
 unfold fa at h;have h1:=List.find?_some h;obtain⟨a,ha,rfl⟩:=List.mem_map.1 (List.mem_of_find?_eq_some h);exact⟨a,ha,beq_iff_eq.1 h1,rfl⟩
theorem zSc(w:World)(wb:Nat)(l:List Pr)(h:WkOn w wb l)(s:ByteArray)(hs:s.size≤9223372036854775807):
 Calls Tryz.prog 55 #[.pointer (some ⟨wb,0,none⟩),.string s] w fun e w'=>e = .returned (.tuple #[.int .i64 ((Pm.find l s).getD 0),.bool (Pm.find l s).isSome])∧Below w.heap.size w w':=by
 obtain⟨D,hMW,hI,hWk⟩:=h.at';have HRT:Hid (∀W',Below w.heap.size w W'→Calls Tryz.prog 61 #[.pointer (some ⟨wb,0,none⟩)] W' fun e w'=>e = .returned (.int .i64 ((((zAf l).2.map ofSt).length:Int)-1))∧w'=W'):=fun W' hW=>zHs _ W' wb _ _ _ (hWk.below hW)
 have HWd:Hid (∀W,Below w.heap.size w W→Calls Tryz.prog 28 #[.string s] W fun e w'=>e = .returned (.bool (zAq s.data.toList))∧Below W.heap.size W w'):=fun W hW=>by
  refine(zCa s W (h.tabs.below hW) hs).mono ?_;rintro e w' ⟨rfl,n,rfl⟩;exact⟨rfl,belowN (Below.refl _ _) n⟩
 obtain⟨F,hF⟩:∃F,Pm.find l s=F:=⟨_,rfl⟩;have HF:Hid (Pm.find l s=F):=hF;rw[hF];clear hF;rcases zLd h.ok with hl|⟨hl,n,hn⟩
 · subst hl
   have HFN:Hid (F=none):=HF.out.symm;clear hMW hI hWk h;go_enter Tryz.func55,Tryz.ntmps55;go_wp2_with (go_at_call 61;refine(HRT.out _ (Below.refl _ _)).mono ?_;rintro e w1 ⟨rfl,hw1⟩;rw[hw1];clear hw1);go_ret2;exact⟨by rw[HFN.out];rfl,Below.refl _ _⟩
 · have hM:=hMW hl
   (have hnl:((zAf l).2.map ofSt).length=n+1:=by rw[List.length_map,hn]);rw[hnl]at HRT;(have hkz:((n+1:Nat):Int)-1=(n:Int):=by omega);rw[hkz]at HRT;cases hwd:zAq s.data.toList with
   |false=>
    rw[hwd]at HWd;have HFN:Hid (F=none):=HF.out.symm.trans (zPi h.ok hwd);clear hMW hI hWk h hM;go_enter Tryz.func55,Tryz.ntmps55
    go_wp2_with (first
     |(go_at_call 61;refine(HRT.out _ (Below.refl _ _)).mono ?_;rintro e w1 ⟨rfl,hw1⟩;rw[hw1];clear hw1)
     |(go_at_call 28;refine(HWd.out _ (Below.refl _ _)).mono ?_;rintro e w1 ⟨rfl,hb1⟩))
    go_ret2;exact⟨by rw[HFN.out];rfl,hb1⟩
   |true=>
    rw[hwd]at HWd;obtain⟨xs,hxs,hx1,hx24,_,_⟩:=zA3 (x:=(s,0)) hwd;have hxs:rs s.data.toList=some xs:=hxs;have HFW:Hid (F=wt xs (ents l)):=HF.out.symm.trans (find_wt (zB0 h.ok) hxs);have HRU:Hid (∀W,Below w.heap.size w W→Calls Tryz.prog 73 #[.string s] W fun e w'=>∃v,e = .returned (.tuple #[v,.bool true])∧Made W.heap.size w' v xs∧Below W.heap.size W w'):=fun W hW=>by
     refine(zGe s W (h.tabs.below hW) hs (zCg hxs (by omega))).mono ?_;rintro e w' ⟨v,hb,⟨h1,_⟩|⟨ys,h1,h2,h3⟩⟩
     · rw[hxs]at h1;cases h1
     · rw[hxs]at h1;cases h1;exact⟨v,h2,h3,hb⟩
    obtain⟨D2,hI2,hst⟩:=zV8 h.ok;have hDD:=zLk hI2 hI;subst hDD;(have hst0:Stands D2 (zAf l).2 (ents l) xs 0 ((n:Int)) (zAf l).1:=by have:=hst xs;rw[hn]at this;rw[show((n:Int))=((n+1:Nat):Int)-1 by omega];exact this);obtain⟨base,hbase⟩:∃base,(zAf l).1=base:=⟨_,rfl⟩;rw[hbase]at hst0 hWk;obtain⟨b,hb0⟩:∃b,(zAf l).2=b:=⟨_,rfl⟩;(have HAF:Hid (∀(n:Nat) (t:St),b[n]?=some t→(t.arcs.map zAs).length≤1114112):=fun k t ht=>zLz h.ok (by rw[hb0];exact ht));rw[hb0]at hst0 hWk hI hn;have HWK:Hid (WkAt w.heap.size w wb base (b.map ofSt) (D2.map List.length)):=hWk;have HST0:Hid (Stands D2 b (ents l) xs 0 (n:Int) base):=hst0;have HNB:Hid (b.length=n+1):=hn;obtain⟨m,hm⟩:∃m,xs.length=m:=⟨_,rfl⟩;have HM:Hid (xs.length=m):=hm;(have hm24:m≤24:=by omega);obtain⟨sd,sc,wd,wc,q0,q1,q2,hSt,_⟩:=hWk.facts;(have hlm:(b.map ofSt).length=n+1:=by rw[List.length_map,hn]);rw[hlm]at q1 hSt;have hsl:=hSt.len;rw[List.length_map,hn]at hsl;have HSt:Hid (StsAt w.heap.size w (.slice sd (n+1) sc) (b.map ofSt)):=hSt;(have HQ:Hid (∀W,Below w.heap.size w W→W.cell? ⟨wb,0,none⟩=some (.int .i64 base)∧W.cell? ⟨wb,1,none⟩=some (.slice sd (n+1) sc)):=fun W hW=>⟨(hW.cell (p:=⟨wb,0,none⟩) hWk.lt).trans q0,(hW.cell (p:=⟨wb,1,none⟩) hWk.lt).trans q1⟩);(have hnl':n≤9223372036854775806:=by omega);clear hMW hWk h hM hst hst0 hI2 hnl hn hxs hbase hb0 hm hSt q0 q1 q2 hlm hwd;go_enter Tryz.func55,Tryz.ntmps55
    go_upto_region 4 with(first
     |(go_at_call 61;refine(HRT.out _ (Below.refl _ _)).mono ?_;rintro e w0 ⟨rfl,hw0⟩;rw[hw0];clear hw0)
     |(go_at_call 28;refine(HWd.out _ (Below.refl _ _)).mono ?_;rintro e w1 ⟨rfl,hb1⟩;have HB1:Hid (Below w.heap.size w w1):=hb1;clear hb1)
     |(go_at_call 73;refine(HRU.out _ HB1.out).mono ?_;rintro e w2 ⟨v,rfl,hmd,hb2⟩;have HMD:Hid (Made w1.heap.size w2 v xs):=hmd;have HB2:Hid (Below w.heap.size w w2):=HB1.out.trans (hb2.mono HB1.out.size);clear hmd hb2))
    have HBd:Hid (Below w.heap.size w w2.drew):=HB2.out.drew;have hS4:S4b wb base w2.drew:=(HQ.out _ HBd.out).1;obtain⟨vd,vc,hvv⟩:∃vd vc,v = .slice vd m vc:=by
     obtain⟨a,c,e⟩:=HMD.out.shape;exact⟨a,c,by rw[e,HM.out]⟩
    subst hvv;have HRW:Hid (RunesAt w2.drew.heap.size w2.drew (.slice vd m vc) xs):=(HMD.out.below (Below.refl _ w2).drew).runes;refine zAh (S:=S4b wb base) 9 rfl zAr hS4 (fun _=>?_);refine tq4 S4b.facts 0 28 2 30 3 31 4 32 ?_;simp only[sZa,sZb,sZc];refine tq2 S4b.facts 5 33 6 34 ?_;simp only[sZa,sZb,sZc];refine oc 1 w2.drew 29 61 #[.pointer (some ⟨wb,0,none⟩)] ?_;refine(HRT.out _ HBd.out).mono ?_;rintro e w3 ⟨rfl,hw3⟩;rw[hw3];clear hw3;refine⟨_,rfl,hS4,fun _=>?_⟩;simp only[sZa,sZb,sZc];refine tq2 S4b.facts 7 8 8 9 ?_;simp only[sZa,sZb,sZc];refine wpAnyH_done (by kernel_rfl) ?_ _;clear hS4;generalize w2.drew=Wd at *;go_wp2
    go_loopg [8,9,11,12,13,37] m (fun gm s8 s9 _ _ _ s37 wr=>∃(i k:Nat) (sum:Int),s37 = .int .i64 i∧s8 = .int .i64 (k:Int)∧s9 = .int .i64 sum∧i≤m∧m-i≤gm∧Hid (Stands D2 b (ents l) xs i (k:Int) sum)∧Hid (k<b.length)∧Hid (Below Wd.heap.size Wd wr))
    case atStart=>exact⟨0,n,base,by go_num,rfl,rfl,Nat.zero_le _,by omega,HST0,(show n<b.length by have:=HNB.out;omega),Below.refl _ _⟩
    case round=>
     obtain⟨i,k,sum,rfl,rfl,rfl,hi,hgm,HST,HK,HBR⟩:=hrel;have hsum:=HST.out.sum hI;obtain⟨t,ht⟩:∃t,b[k]?=some t:=⟨b[k]'HK.out,List.getElem?_eq_getElem _⟩;have hbw:Below w.heap.size w wr:=HBd.out.trans (HBR.out.mono HBd.out.size);have HBW:Hid (Below w.heap.size w wr):=hbw;obtain⟨g,off,va,hgd,hg,x0,x1,x2,hA⟩:=HSt.out.at (k:=k) (s:=ofSt t) (by rw[List.getElem?_map,ht];rfl);obtain⟨ta,tc,hva⟩:=hA.shape;obtain⟨na,hna⟩:∃na,t.arcs.length=na:=⟨_,rfl⟩;(have hna2:(ofSt t).arcs.length=na:=by show(t.arcs.map zAs).length=na;rw[List.length_map,hna]);rw[hna2]at hva;subst hva;subst hgd;have u0:wr.cell? ⟨g,off+k*3,none⟩=some (.bool t.final):=(hbw.cell (p:=⟨g,off+k*3,none⟩) hg).trans x0;have u1:wr.cell? ⟨g,off+k*3+1,none⟩=some (.int .i64 t.out):=(hbw.cell (p:=⟨g,off+k*3+1,none⟩) hg).trans x1;have u2:wr.cell? ⟨g,off+k*3+2,none⟩=some (.slice ta na tc):=(hbw.cell (p:=⟨g,off+k*3+2,none⟩) hg).trans x2;have u3:=(HQ.out wr hbw).2;(have hkz2:(k:Int)<(n:Int)+1:=by have:=HK.out;have:=HNB.out;omega);have HTB:Hid (b[k]?=some t):=ht;by_cases hlt:i<m
     · have hltz:(i:Int)<(m:Int):=by omega
       obtain⟨c,hc⟩:∃c,xs[i]?=some c:=⟨xs[i]'(by have:=HM.out;omega),List.getElem?_eq_getElem _⟩;obtain⟨ad2,cap2,hv2,hcells⟩:=HRW.out.below HBR.out;simp only[Value.slice.injEq]at hv2;obtain⟨gx,ox,hgx,_,hcx⟩:=hcells (by have:=HM.out;omega);obtain⟨hv2a,hv2b,hv2c⟩:=hv2;clear hv2b hv2c;subst hv2a;subst hgx;have ucx:=hcx i c hc
       have HFD:Hid (Calls Tryz.prog 90 #[.slice ta na tc,.int .i32 c] wr fun e w'=>e = .returned (.tuple #[arcV ((fa (t.arcs.map zAs) c).getD zA),.bool (fa (t.arcs.map zAs) c).isSome])∧Below wr.heap.size wr w'):=
        find_any w.heap.size wr (t.arcs.map zAs) _ c (hA.below hbw) hbw.size (zYk hI ht) (HAF.out k t ht)
       have hnext:=HST.out.next hI ht hc
       clear x0 x1 x2 hA hna hna2 hbw ht hcells hcx u0 u1;cases hfa:fa (t.arcs.map zAs) c with
       |none=>
        rw[hfa]at HFD;have HFN:Hid (F=none):=by
         rcases hnext.1 (fa_arcs hfa) 0 with⟨_,h2⟩|⟨q,_,h2,_⟩
         · exact HFW.out.trans h2
         · omega
        clear hnext hfa hc;go_wp2_with (go_at_call 90;refine HFD.out.mono ?_;simp only[Option.getD_none,Option.isSome_none,arcV,zA];rintro e w5 ⟨rfl,hb5⟩;have HB5:Hid (Below wr.heap.size wr w5):=hb5;clear hb5);go_ret2;have h6:=HBW.out.trans (HB5.out.mono HBW.out.size);exact⟨by rw[HFN.out];rfl,h6.alloc (Nat.le_trans HBW.out.size HB5.out.size) _⟩
       |some x=>
        rw[hfa]at HFD;obtain⟨a,ham,hac,rfl⟩:=fa_arc hfa;obtain⟨n1,n2,n3,n4⟩:=hnext.2 a ham hac;have HN1:Hid (Stands D2 b (ents l) xs (i+1) (a.to:Int) (sum+a.out)):=n1;have HN2:Hid (a.to<b.length):=n2;obtain⟨d1,d2⟩:0≤a.out∧a.out≤1048576:=⟨(zCp hI HTB.out).2.1 a ham,by omega⟩;clear hnext hfa hc n1 n2 hac;(go_upto_region 9 with(go_at_call 90;refine HFD.out.mono ?_;simp only[Option.getD_some,Option.isSome_some,arcV,zAs];rintro e w5 ⟨rfl,hb5⟩;have HB5:Hid (Below wr.heap.size wr w5):=hb5;clear hb5));obtain⟨W6,hW6⟩:∃W6,W6=w5.alloc (.cells #[.int .i32 a.label,.int .i64 a.out,.int .i64 (a.to:Int)] 89):=⟨_,rfl⟩;rw[←hW6];obtain⟨ab,hab⟩:∃ab,ab=w5.heap.size:=⟨_,rfl⟩;rw[←hab];(have hn6:W6.heap[ab]?=some (.cells #[.int .i32 a.label,.int .i64 a.out,.int .i64 (a.to:Int)] 89):=by rw[hW6,hab];exact zAb _ _);(have hb6:Below w5.heap.size w5 W6:=by rw[hW6];exact(Below.refl _ w5).alloc (Nat.le_refl _) _);have hb7:Below Wd.heap.size Wd W6.drew:=by
         have h1:=HBR.out.trans (HB5.out.mono HBR.out.size);exact(h1.trans (hb6.mono h1.size)).drew
        have HB7:Hid (Below Wd.heap.size Wd W6.drew):=hb7;have hS:S11 ab a.out (a.to:Int) W6.drew:=⟨(by show W6.cell? ⟨ab,1,none⟩=_;simp[World.cell?,hn6]),(by show W6.cell? ⟨ab,2,none⟩=_;simp[World.cell?,hn6])⟩;clear hW6 hab hn6 hb6 hb7;(go_upto_region 11 with fail);refine zAh (S:=S11 ab a.out (a.to:Int)) 8 rfl zAr hS (fun _=>?_);refine tq4 S11.facts 0 57 1 58 2 59 3 60 ?_;simp only[sZa,sZb,sZc];refine tq S11.facts 4 61 ?_;simp only[sZa,sZb,sZc];refine tk (i:=5) (v := .int .i64 (sum+a.out)) 62 rfl rfl (by kernel_rfl) (fun w hSw=>by(clear hSw;go_simp;first|done|exact wrap_sum hsum.1 hsum.2 d1 d2)) ?_;simp only[sZa,sZb,sZc];refine tq2 S11.facts 6 8 7 9 ?_;simp only[sZa,sZb,sZc];refine wpAnyH_done (by kernel_rfl) ?_ _;clear hS;go_wp2;go_roundg (m-(i+1));(case measure=>omega);case rel=>exact⟨i+1,a.to,sum+a.out,by go_num,rfl,rfl,by omega,Nat.le_refl _,HN1,HN2,HB7⟩
     · have hltz:¬(i:Int)<(m:Int):=by omega
       have hwt:F=if t.final then some (sum+t.out)else none:=by
        rcases HST.out with⟨h1,_⟩|⟨q,R,h1,h2,h3,h4,h5⟩
        · omega
        · have hq:q=k:=by omega
          subst hq;have e1:=(hI.row q t ht).1;rw[h3]at e1;have hR:R=exp D2 t:=Option.some.inj e1;rw[HFW.out,h4,List.drop_eq_nil_of_le (by have:=HM.out;omega),hR,wt_zero]
       have hto:t.final=true→0≤t.out∧sum+t.out≤1048576:=fun hf=>by
        (have hin:([],t.out)∈exp D2 t:=by unfold exp fins;rw[hf];simp);rcases HST.out with⟨h1,_⟩|⟨q,R,h1,h2,h3,h4,h5⟩
        · omega
        · have hq:q=k:=by omega
          subst hq;have e1:=(hI.row q t ht).1;rw[h3]at e1;have hR:R=exp D2 t:=Option.some.inj e1;have h6:=h5 ([],t.out+sum) (by rw[hR];exact List.mem_map.2 ⟨_,hin,rfl⟩);have h7:=hI.lv R (List.mem_of_getElem? h3);have h8:=zCb (show([],t.out)∈R by rw[hR];exact hin);rw[h7.2]at h8;simp only at h6 h8;omega
       have HWT:Hid (F=if t.final then some (sum+t.out)else none):=hwt;clear hwt x0 x1 x2 hA hna hna2 hbw ht;obtain⟨ft,hft⟩:∃ft,t.final=ft:=⟨_,rfl⟩;rw[hft]at HWT u0 hto;clear hft;cases ft with
       |false=>
        go_wp2;go_ret2;exact⟨by rw[HWT.out];rfl,HBW.out.alloc HBW.out.size _⟩
       |true=>
        obtain⟨o1,o2⟩:=hto rfl;go_wp2;go_ret2;exact⟨by rw[HWT.out];rfl,HBW.out.alloc HBW.out.size _⟩
end
section
open Go.RowKit Nums Fm Pk
def zMg(sb ab nb vb:Nat):Value := .func (.func 123) #[] #[.pointer (some ⟨sb,0,none⟩),.pointer (some ⟨ab,0,none⟩),.pointer (some ⟨nb,0,none⟩),.pointer (some ⟨vb,0,none⟩)]
structure NumAt(w:World)(sb ab nb vb:Nat)(vs:Value)(am:Bool)(nx:Int):Prop where
 s:w.heap[sb]?=some (.cells #[vs] 29)
 a:w.heap[ab]?=some (.cells #[.bool am] 4)
 n:w.heap[nb]?=some (.cells #[.int .i64 nx] 3)
 v:w.heap[vb]?=some (.cells #[zMg sb ab nb vb] 208)
theorem NumAt.facts{w:World}{sb ab nb vb:Nat}{vs:Value}{am:Bool}{nx:Int}(h:NumAt w sb ab nb vb vs am nx):w.cell? ⟨sb,0,none⟩=some vs∧w.cell? ⟨ab,0,none⟩=some (.bool am)∧w.cell? ⟨nb,0,none⟩=some (.int .i64 nx)∧w.cell? ⟨vb,0,none⟩=some (zMg sb ab nb vb)∧(∀o,w.frozen? ⟨ab,o,none⟩=false)∧(∀o,w.frozen? ⟨nb,o,none⟩=false):=
 ⟨by simp[World.cell?,h.s],by simp[World.cell?,h.a],by simp[World.cell?,h.n],by simp[World.cell?,h.v],fun o=>by simp[World.frozen?,h.a],fun o=>by simp[World.frozen?,h.n]⟩
theorem NumAt.below{w w':World}{sb ab nb vb:Nat}{vs:Value}{am:Bool}{nx:Int}(h:NumAt w sb ab nb vb vs am nx)(hb:Below w.heap.size w w'):NumAt w' sb ab nb vb vs am nx:=
 ⟨(hb.block _ (Array.getElem?_eq_some_iff.1 h.s).1).trans h.s,(hb.block _ (Array.getElem?_eq_some_iff.1 h.a).1).trans h.a,(hb.block _ (Array.getElem?_eq_some_iff.1 h.n).1).trans h.n,(hb.block _ (Array.getElem?_eq_some_iff.1 h.v).1).trans h.v⟩
structure Boxes(E sb ab nb vb:Nat):Prop where
 ea:E≤ab
 en:E≤nb
 an:ab≠nb
 sa:sb≠ab
 sn:sb≠nb
 va:vb≠ab
 vn:vb≠nb
theorem NumAt.setA{E:Nat}{w:World}{sb ab nb vb:Nat}{vs:Value}{am:Bool}{nx:Int}(h:NumAt w sb ab nb vb vs am nx)(hp:Boxes E sb ab nb vb)(A:Bool):NumAt (w.setCell ⟨ab,0,none⟩ (.bool A)) sb ab nb vb vs A nx:=
 ⟨(zAc _ _ _ _ hp.sa).trans h.s,by rw[zAt h.a];rfl,(zAc _ _ _ _ (fun e=>hp.an e.symm)).trans h.n,(zAc _ _ _ _ hp.va).trans h.v⟩
theorem NumAt.setN{E:Nat}{w:World}{sb ab nb vb:Nat}{vs:Value}{am:Bool}{nx:Int}(h:NumAt w sb ab nb vb vs am nx)(hp:Boxes E sb ab nb vb)(x:Int):NumAt (w.setCell ⟨nb,0,none⟩ (.int .i64 x)) sb ab nb vb vs am x:=
 ⟨(zAc _ _ _ _ hp.sn).trans h.s,(zAc _ _ _ _ hp.an).trans h.a,by rw[zAt h.n];rfl,(zAc _ _ _ _ hp.vn).trans h.v⟩
theorem zKk{ab nb:Nat}{w wr:World}(h:Upd (fun j=>j=ab∨j=nb) w wr)(x y:Value):Upd (fun j=>j=ab∨j=nb) w ((wr.setCell ⟨ab,0,none⟩ x).setCell ⟨nb,0,none⟩ y):=by
 obtain⟨a1,a2,a3,a4⟩:=zA4 wr ab 0 x;obtain⟨b1,b2,b3,b4⟩:=zA4 (wr.setCell ⟨ab,0,none⟩ x) nb 0 y;exact⟨(b1.trans a1).trans h.os,(b2.trans a2).trans h.tape,(b3.trans a3).trans h.output,by rw[b4,a4];exact h.size,fun j hj hn=>(zAc _ _ _ _ (fun e=>hn (.inr e))).trans ((zAc _ _ _ _ (fun e=>hn (.inl e))).trans (h.block j hj hn))⟩
def zIx(m:List RSt)(f n next:Nat)(am:Bool)(nx:Int):Prop:=(am=false∧∃k:Nat,nx=k∧vis8 m f n next=some k)∨(am=true∧vis8 m f n next=none)
namespace Pk
theorem vArcs_at{V:Nat→Nat→Option Nat}{l:List RArc}{k next:Nat}{a:RArc}(h:l[k]?=some a):zDm V (l.drop k) next=if (next:Int)≤a.to then (V a.to.toNat next).bind (zDm V (l.drop (k+1)))else zDm V (l.drop (k+1)) next:=by
 obtain⟨hk,rfl⟩:=List.getElem?_eq_some_iff.1 h;rw[List.drop_eq_getElem_cons hk,zDm]
end Pk
structure VLoop(E:Nat)(w wr:World)(sb ab nb vb:Nat)(vs:Value)(m:List RSt)(V:Nat→Nat→Option Nat)(arcs:List RArc)(next k:Nat)(am:Bool)(nx:Int):Prop where
 num:NumAt wr sb ab nb vb vs am nx
 upd:Upd (fun j=>j=ab∨j=nb) w wr
 go:am=false→∃q:Nat,nx=q∧zDm V arcs next=zDm V (arcs.drop k) q
 no:am=true→zDm V arcs next=none
theorem zMf(E:Nat)(m:List RSt)(ad:Option Addr)(cap sb ab nb vb:Nat)(hF:zBg 0 m=true)(hm:m.length≤1048576)(hap:Boxes E sb ab nb vb):
 ∀(f n next:Nat) (w:World),n<f→n<m.length→next≤1048576→StsAt E w (.slice ad m.length cap) m→E≤w.heap.size→NumAt w sb ab nb vb (.slice ad m.length cap) false next →
 Calls Tryz.prog 123 #[.int .i64 n,.pointer (some ⟨sb,0,none⟩),.pointer (some ⟨ab,0,none⟩),.pointer (some ⟨nb,0,none⟩),.pointer (some ⟨vb,0,none⟩)] w fun e w'=>e = .returned (.tuple #[])∧∃am nx,NumAt w' sb ab nb vb (.slice ad m.length cap) am nx∧zIx m f n next am nx∧Upd (fun j=>j=ab∨j=nb) w w'
 |0,n,_,_,hn,_,_,_,_,_=>absurd hn (by omega)
 |f+1,n,next,w,hn,hnm,hnx,hS,hE,hN=>by
  obtain⟨s,hs⟩:∃s,m[n]?=some s:=⟨m[n],List.getElem?_eq_getElem hnm⟩;have hFS:=zHn m 0 n s hF hs;rw[Nat.zero_add]at hFS;obtain⟨q1,q2,q3⟩:=zEu hFS;obtain⟨ml,hml⟩:∃ml,m.length=ml:=⟨_,rfl⟩;have HML:Hid (m.length=ml):=hml;rw[hml]at hnm hm hS hN ⊢;obtain⟨g,off,va,rfl,hg,c0,c1,c2,hA⟩:=hS.at hs;obtain⟨vd,vc,hva⟩:=hA.shape;obtain⟨na,hna⟩:∃na,s.arcs.length=na:=⟨_,rfl⟩;have HNA:Hid (s.arcs.length=na):=hna;rw[hna]at hva q3;subst hva;have hnz:(n:Int)<(ml:Int):=by omega
  have HIH:Hid (∀(n next:Nat) (w:World),n<f→n<m.length→next≤1048576→StsAt E w (.slice (some ⟨g,off,none⟩) m.length cap) m→E≤w.heap.size→NumAt w sb ab nb vb (.slice (some ⟨g,off,none⟩) m.length cap) false next →
   Calls Tryz.prog 123 #[.int .i64 n,.pointer (some ⟨sb,0,none⟩),.pointer (some ⟨ab,0,none⟩),.pointer (some ⟨nb,0,none⟩),.pointer (some ⟨vb,0,none⟩)] w fun e w'=>e = .returned (.tuple #[])∧∃am nx,NumAt w' sb ab nb vb (.slice (some ⟨g,off,none⟩) m.length cap) am nx∧zIx m f n next am nx∧Upd (fun j=>j=ab∨j=nb) w w'):=zMf E m _ cap sb ab nb vb hF (by omega) hap f
  obtain⟨f0,f1,f2,f3,f4,f5⟩:=hN.facts;have HL0:Hid (VLoop E w w sb ab nb vb (.slice (some ⟨g,off,none⟩) ml cap) m (vis8 m f) s.arcs next 0 false next):=⟨hN,Upd.refl _ _,fun _=>⟨next,rfl,rfl⟩,fun h=>by cases h⟩;have HV8:Hid (vis8 m (f+1) n next=(zDm (vis8 m f) s.arcs next).bind fun k=>if n=k then some (k+1)else none):=by
   show _=_;rw[vis8,List.getD_eq_getElem?_getD,hs];rfl
  have HS:Hid (StsAt E w (.slice (some ⟨g,off,none⟩) ml cap) m):=hS;have HA:Hid (ArcsAt E w (.slice vd na vc) s.arcs):=hA;clear hs hFS hS hN hA hF;go_enter Tryz.func123,Tryz.ntmps123;go_wp2
  go_step3
  go_wp2
  go_step3
  go_wp2
  go_loopg [7,14] na (fun gm _ s14 wr=>∃(k:Nat) (am:Bool) (nx:Int),s14 = .int .i64 k∧k≤na∧na-k≤gm∧Hid (VLoop E w wr sb ab nb vb (.slice (some ⟨g,off,none⟩) ml cap) m (vis8 m f) s.arcs next k am nx))
  case atStart=>exact⟨0,false,next,rfl,Nat.zero_le _,by omega,HL0⟩
  case round=>
   obtain⟨k,am,nx,rfl,hk,hgm,HL⟩:=hrel;clear f0 f1 f2 f3 f4 f5;obtain⟨f0,f1,f2,f3,f4,f5⟩:=HL.out.num.facts;have hbE:Below E w wr:=HL.out.upd.below hE (fun j hj=>hj.elim (fun e=>e▸hap.ea) (fun e=>e▸hap.en));have HBE:Hid (Below E w wr):=hbE;have hEr:E≤wr.heap.size:=Nat.le_trans hE HL.out.upd.size;by_cases hlt:k<na
   · have hltz:(k:Int)<(na:Int):=by omega
     obtain⟨x,hx⟩:∃x,s.arcs[k]?=some x:=⟨s.arcs[k]'(by have:=HNA.out;omega),List.getElem?_eq_getElem _⟩;obtain⟨ag,aoff,rfl,hag,d0,d1,d2⟩:=(HA.out.below hbE).at hx;obtain⟨p0,p1,_⟩:=q1 x (List.mem_of_getElem? hx);obtain⟨t,ht⟩:∃t:Nat,x.to=(t:Int):=⟨x.to.toNat,by omega⟩;rw[ht]at d2 p0 p1;obtain⟨xb,hxb⟩:∃xb,xb=wr.heap.size:=⟨_,rfl⟩;obtain⟨W1,hW1⟩:∃W1,W1=wr.alloc (.cells #[.int .i32 x.label,.int .i64 x.out,.int .i64 (t:Int)] 89):=⟨_,rfl⟩;(have hb1:Below wr.heap.size wr W1:=by rw[hW1];exact(Below.refl _ wr).alloc (Nat.le_refl _) _);(have hn1:W1.heap[xb]?=some (.cells #[.int .i32 x.label,.int .i64 x.out,.int .i64 (t:Int)] 89):=by rw[hW1,hxb];exact zAb _ _);have HN1:=HL.out.num.below hb1;have HU1:Hid (Upd (fun j=>j=ab∨j=nb) w W1):=HL.out.upd.trans (Upd.of_below hb1:Upd (fun _=>False) wr W1) (fun _ _ h=>h.elim);have HNN:Hid (NumAt W1 sb ab nb vb (.slice (some ⟨g,off,none⟩) ml cap) am nx):=HN1;(have e2:W1.cell? ⟨xb,2,none⟩=some (.int .i64 (t:Int)):=by simp[World.cell?,hn1]);obtain⟨g0,g1,g2,g3,g4,g5⟩:=HN1.facts;unfold zMg at g3;have HE1:Hid (E≤W1.heap.size):=Nat.le_trans hEr hb1.size;have HBE1:Hid (Below E w W1):=hbE.trans (hb1.mono hEr);cases am with
     |true=>
      (have HVN:Hid (vis8 m (f+1) n next=none):=by show _=_;rw[HV8.out,HL.out.no rfl];rfl);(have k2:=fun A=>((HNN.out.setA hap A).facts).2.2.1);(have k5:=fun A=>((HNN.out.setA hap A).facts).2.2.2.2.2);clear hx hn1 hb1 HN1;(go_upto_region 3 with fail);rw[←hxb,←hW1];clear hxb hW1 d0 d1 d2 f0 f1 f2 f3 f4 f5;(have HFIN:Hid (∀x,NumAt ((W1.setCell ⟨ab,0,none⟩ (.bool true)).setCell ⟨nb,0,none⟩ (.int .i64 x)) sb ab nb vb (.slice (some ⟨g,off,none⟩) ml cap) true x):=fun x=>(HNN.out.setA hap true).setN hap x);go_wp2;try simp only[Exit.noGoto]
      go_end0
      exact⟨rfl,true,_,HFIN.out _,.inr ⟨rfl,HVN.out⟩,zKk HU1.out _ _⟩
     |false=>
      obtain⟨q,hq,hgo⟩:=HL.out.go rfl;subst hq;have HGO:Hid (zDm (vis8 m f) s.arcs next=if (q:Int)≤x.to then (vis8 m f x.to.toNat q).bind (zDm (vis8 m f) (s.arcs.drop (k+1)))else zDm (vis8 m f) (s.arcs.drop (k+1)) q):=hgo.trans (vArcs_at hx);rw[ht,Int.toNat_natCast]at HGO;clear hx hn1 hb1 HN1 hgo;(go_upto_region 3 with fail);rw[←hxb,←hW1];clear hxb hW1 d0 d1 d2 f0 f1 f2 f3 f4 f5;by_cases hqt:q≤t
      · have hqz:(q:Int)≤(t:Int):=by omega
        rw[if_pos hqz]at HGO;have HCL:Hid (Calls Tryz.prog 123 #[.int .i64 t,.pointer (some ⟨sb,0,none⟩),.pointer (some ⟨ab,0,none⟩),.pointer (some ⟨nb,0,none⟩),.pointer (some ⟨vb,0,none⟩)] W1 fun e w'=>e = .returned (.tuple #[])∧∃am nx,NumAt w' sb ab nb vb (.slice (some ⟨g,off,none⟩) ml cap) am nx∧zIx m f t q am nx∧Upd (fun j=>j=ab∨j=nb) W1 w'):=by
         have:=HIH.out t q W1 (by omega) (by have:=HML.out;omega) (by omega) (by rw[HML.out];exact HS.out.below HBE1.out) HE1.out (by rw[HML.out];exact HNN.out);rw[HML.out]at this;exact this
        go_wp2_with (go_at_call 123;refine HCL.out.mono ?_;rintro e w2 ⟨rfl,am2,nx2,hn2,hv2,hu2⟩;have HN2:Hid _:=hn2;have HV2:Hid _:=hv2;have HU2:Hid _:=hu2;clear hn2 hv2 hu2);have HNX:Hid (VLoop E w w2 sb ab nb vb (.slice (some ⟨g,off,none⟩) ml cap) m (vis8 m f) s.arcs next (k+1) am2 nx2):=by
         refine⟨HN2.out,HU1.out.trans HU2.out (fun _ _ h=>h),fun ha=>?_,fun ha=>?_⟩
         · rcases HV2.out with⟨_,j,hj,hv⟩|⟨h1,_⟩
           · exact⟨j,hj,by rw[HGO,hv];rfl⟩
           · rw[h1]at ha;cases ha
         · rcases HV2.out with⟨h1,_⟩|⟨_,hv⟩
           · rw[h1]at ha;cases ha
           · rw[HGO,hv];rfl
        go_roundg (na-(k+1));(case measure=>omega);case rel=>exact⟨k+1,_,_,by go_num,by omega,Nat.le_refl _,HNX⟩
      · have hqz:¬(q:Int)≤(t:Int):=by omega
        rw[if_neg hqz]at HGO;have HNX:Hid (VLoop E w W1 sb ab nb vb (.slice (some ⟨g,off,none⟩) ml cap) m (vis8 m f) s.arcs next (k+1) false q):=⟨HNN.out,HU1.out,fun _=>⟨q,rfl,HGO⟩,fun h=>by cases h⟩;go_wp2;go_roundg (na-(k+1));(case measure=>omega);case rel=>exact⟨k+1,_,_,by go_num,by omega,Nat.le_refl _,HNX⟩
   · have hltz:¬(k:Int)<(na:Int):=by omega
     have HU1:Hid (Upd (fun j=>j=ab∨j=nb) w wr):=HL.out.upd;(have k2:=fun A=>((HL.out.num.setA hap A).facts).2.2.1);(have k5:=fun A=>((HL.out.num.setA hap A).facts).2.2.2.2.2);(have HFIN:Hid (∀A x,NumAt ((wr.setCell ⟨ab,0,none⟩ (.bool A)).setCell ⟨nb,0,none⟩ (.int .i64 x)) sb ab nb vb (.slice (some ⟨g,off,none⟩) ml cap) A x):=fun A x=>(HL.out.num.setA hap A).setN hap x);cases am with
     |true=>
      (have HVN:Hid (vis8 m (f+1) n next=none):=by show _=_;rw[HV8.out,HL.out.no rfl];rfl);go_wp2;try simp only[Exit.noGoto]
      go_end0
      exact⟨rfl,true,_,HFIN.out _ _,.inr ⟨rfl,HVN.out⟩,zKk HU1.out _ _⟩
     |false=>
      obtain⟨q,hq,hgo⟩:=HL.out.go rfl;subst hq;rw[List.drop_of_length_le (by have:=HNA.out;omega),zDm]at hgo;by_cases hnq:n=q
      · subst hnq
        (have HVN:Hid (vis8 m (f+1) n next=some (n+1)):=by show _=_;rw[HV8.out,hgo];simp);clear hgo;go_wp2;try simp only[Exit.noGoto]
        go_end0
        exact⟨rfl,false,_,HFIN.out _ _,.inl ⟨rfl,n+1,by go_num,HVN.out⟩,zKk HU1.out _ _⟩
      · have HVN:Hid (vis8 m (f+1) n next=none):=by show _=_;rw[HV8.out,hgo];simp[hnq]
        have h1b:((n:Int)==(q:Int))=false:=beq_eq_false_iff_ne.2 (by omega);(have h1n:((n:Int) != (q:Int))=true:=by simp[bne,h1b]);clear hgo;go_wp2;try simp only[Exit.noGoto]
        go_end0
        exact⟨rfl,true,_,HFIN.out _ _,.inr ⟨rfl,HVN.out⟩,zKk HU1.out _ _⟩
theorem zM6(E:Nat)(w:World)(m:List RSt)(vs:Value)(h:StsAt E w vs m)(hE:E≤w.heap.size)(hF:zBg 0 m=true)(hm:m.length≤1048576)(hm0:m≠[]):
 Calls Tryz.prog 85 #[vs] w fun e w'=>e = .returned (.bool (numB m))∧Below w.heap.size w w':=by
 obtain⟨ad,cap,rfl⟩:=h.shape;have hpos:=List.length_pos_iff.2 hm0;obtain⟨n,hn⟩:∃n,m.length=n+1:=⟨m.length-1,by omega⟩;have HN:Hid (m.length=n+1):=hn;have HR:Hid (StsAt E w (.slice ad m.length cap) m):=h;obtain⟨sb,hsb⟩:∃sb,sb=w.heap.size:=⟨_,rfl⟩;obtain⟨nb,hnb⟩:∃nb,nb=w.heap.size+1:=⟨_,rfl⟩;obtain⟨ab,hab⟩:∃ab,ab=w.heap.size+1+1:=⟨_,rfl⟩;obtain⟨vb,hvb⟩:∃vb,vb=w.heap.size+1+1+1:=⟨_,rfl⟩;have hap:Boxes E sb ab nb vb:=⟨by omega,by omega,by omega,by omega,by omega,by omega,by omega⟩
 have HVS:Hid (∀W,Below w.heap.size w W→NumAt W sb ab nb vb (.slice ad m.length cap) false 0→Calls Tryz.prog 123 #[.int .i64 n,.pointer (some ⟨sb,0,none⟩),.pointer (some ⟨ab,0,none⟩),.pointer (some ⟨nb,0,none⟩),.pointer (some ⟨vb,0,none⟩)] W fun e w'=>e = .returned (.tuple #[])∧∃am nx,NumAt w' sb ab nb vb (.slice ad m.length cap) am nx∧zIx m (m.length+25) n 0 am nx∧Upd (fun j=>j=ab∨j=nb) W w'):=fun W hW hN=>
  zMf E m ad cap sb ab nb vb hF hm hap (m.length+25) n 0 W (by omega) (by omega) (by omega) (h.below (hW.mono hE)) (Nat.le_trans hE hW.size) hN
 have HNB:Hid (numB m=(vis8 m (m.length+25) n 0).isSome):=by show _=_;unfold numB;rw[show m.length-1=n by omega]
 have HAP:Hid (w.heap.size≤ab∧w.heap.size≤nb):=⟨by omega,by omega⟩;rw[hn]at HVS HR hm ⊢;clear h hn;go_enter Tryz.func85,Tryz.ntmps85;obtain⟨W0,hW0⟩:∃W0,W0=(((w.alloc (.cells #[.slice ad (n+1) cap] 29)).alloc (.cells #[.int .i64 0] 3)).alloc (.cells #[.bool false] 4)).alloc (.cells #[Value.nilFunc] 208):=⟨_,rfl⟩;have hs0:W0.heap[sb]?=some (.cells #[.slice ad (n+1) cap] 29):=by
  rw[hW0,(MapKept.heap_alloc _ _).2 sb (by rw[hsb];simp;omega),(MapKept.heap_alloc _ _).2 sb (by rw[hsb];simp;omega),(MapKept.heap_alloc _ _).2 sb (by rw[hsb];simp),hsb];exact zAb _ _
 have hn0:W0.heap[nb]?=some (.cells #[.int .i64 0] 3):=by
  have e:(w.alloc (.cells #[.slice ad (n+1) cap] 29)).heap.size=nb:=by rw[hnb];simp
  rw[hW0,(MapKept.heap_alloc _ _).2 nb (by rw[hnb];simp),(MapKept.heap_alloc _ _).2 nb (by rw[hnb];simp),←e];exact zAb _ _
 have ha0:W0.heap[ab]?=some (.cells #[.bool false] 4):=by
  have e:((w.alloc (.cells #[.slice ad (n+1) cap] 29)).alloc (.cells #[.int .i64 0] 3)).heap.size=ab:=by rw[hab];simp
  rw[hW0,(MapKept.heap_alloc _ _).2 ab (by rw[hab];simp),←e];exact zAb _ _
 have hv0:W0.heap[vb]?=some (.cells #[Value.nilFunc] 208):=by
  have e:(((w.alloc (.cells #[.slice ad (n+1) cap] 29)).alloc (.cells #[.int .i64 0] 3)).alloc (.cells #[.bool false] 4)).heap.size=vb:=by rw[hvb];simp
  rw[hW0,←e];exact zAb _ _
 have hb0:Below w.heap.size w W0:=by
  rw[hW0];exact((((Below.refl _ w).alloc (Nat.le_refl _) _).alloc (by simp) _).alloc (by simp;omega) _).alloc (by simp;omega) _
 have z0:W0.cell? ⟨vb,0,none⟩=some Value.nilFunc:=by simp[World.cell?,hv0]
 have z1:∀o,W0.frozen? ⟨vb,o,none⟩=false:=fun o=>by simp[World.frozen?,hv0]
 obtain⟨W1,hW1⟩:∃W1,W1=W0.setCell ⟨vb,0,none⟩ (zMg sb ab nb vb):=⟨_,rfl⟩;have hN1:NumAt W1 sb ab nb vb (.slice ad (n+1) cap) false 0:=by
  rw[hW1];exact⟨(zAc _ _ _ _ (by omega)).trans hs0,(zAc _ _ _ _ (by omega)).trans ha0,(zAc _ _ _ _ (by omega)).trans hn0,by rw[zAt hv0];rfl⟩
 have HB1:Hid (Below w.heap.size w W1):=by show Below _ _ _;rw[hW1];exact hb0.setCell (p:=⟨vb,0,none⟩) (by simp only;omega) _
 have HC:Hid (Calls Tryz.prog 123 #[.int .i64 n,.pointer (some ⟨sb,0,none⟩),.pointer (some ⟨ab,0,none⟩),.pointer (some ⟨nb,0,none⟩),.pointer (some ⟨vb,0,none⟩)] W1 fun e w'=>e = .returned (.tuple #[])∧∃am nx,NumAt w' sb ab nb vb (.slice ad (n+1) cap) am nx∧zIx m (n+1+25) n 0 am nx∧Upd (fun j=>j=ab∨j=nb) W1 w'):=HVS.out W1 HB1.out hN1;have hW1':W1=W0.setCell ⟨vb,0,none⟩ (.func (.func 123) #[] #[.pointer (some ⟨sb,0,none⟩),.pointer (some ⟨ab,0,none⟩),.pointer (some ⟨nb,0,none⟩),.pointer (some ⟨vb,0,none⟩)]):=hW1;obtain⟨g0,g1,g2,g3,g4,g5⟩:=hN1.facts;unfold zMg at g3;have hwrp:IntKind.i64.wrap (((n+1:Nat):Int)-1)=(n:Int):=by rw[IntKind.wrap_i64];omega
 clear hs0 hn0 ha0 hv0 hb0 hN1 hW1 hap;go_upto_region 3 with fail
 rw[←hvb,←hab,←hnb,←hsb,←hW0];clear hW0 hsb hab hnb hvb;go_upto_region 4 with fail
 rw[←hW1'];clear hW1' z0 z1;go_upto_region 5 with(go_at_call 123;refine HC.out.mono ?_;rintro e w2 ⟨rfl,am,nx,hn2,hv2,hu2⟩)
 obtain⟨g0',g1',g2',g3',g4',g5'⟩:=hn2.facts;have hbel:Below w.heap.size w w2:=HB1.out.trans (hu2.below HB1.out.size (fun j hj=>hj.elim (fun e=>e▸HAP.out.1) (fun e=>e▸HAP.out.2)));have HAM:Hid (numB m=!am):=by
  show _=_;rw[HNB.out,HN.out];rcases hv2 with⟨rfl,k,_,h2⟩|⟨rfl,h2⟩
  · rw[h2];rfl
  · rw[h2];rfl
 clear hn2 hv2 hu2;go_wp2;go_ret;exact⟨by rw[HAM.out];rfl,hbel⟩
theorem zYw(E:Nat)(w:World)(base:Int)(m:List RSt)(vs:Value)(h:StsAt E w vs m)(hE:E≤w.heap.size)(hT:Tabs w)(hm:m.length≤1048576):
 Calls Tryz.prog 47 #[.agg #[.int .i64 base,vs]] w fun e w'=>e = .returned (.bool (Pk.rightB base m))∧Below w.heap.size w w':=by
 obtain⟨ad,cap,rfl⟩:=h.shape;have HB0:Hid (∀o,Below w.heap.size w (w.alloc o)):=fun o=>(Below.refl _ w).alloc (Nat.le_refl _) o
 by_cases h0:m=[]
 · have HR:Hid (Pk.rightB base m=decide (base=0)):=by show _=_;rw[Pk.rightB,if_pos h0]
   (have hl:m.length=0:=by rw[h0];rfl);rw[hl];clear h hT hl h0;go_enter Tryz.func47,Tryz.ntmps47;by_cases hb:base=0
   · subst hb
     go_wp2;go_ret;exact⟨by rw[HR.out];rfl,HB0.out _⟩
   · have h1b:(base==0)=false:=beq_eq_false_iff_ne.2 hb
     go_wp2;go_ret;exact⟨by rw[HR.out,decide_eq_false hb];rfl,HB0.out _⟩
 have hpos:=List.length_pos_iff.2 h0;obtain⟨n,hn⟩:∃n,m.length=n+1:=⟨m.length-1,by omega⟩;have HN:Hid (m.length=n+1):=hn;obtain⟨rt,hrt⟩:∃rt,m[n]?=some rt:=⟨m[n]'(by omega),List.getElem?_eq_getElem _⟩;have HRR:Hid (Pk.rightB base m=(decide (1≤base∧base≤1048576)&&!rt.final&&zBg 0 m&&bndB base [] m&&numB m&&decide m.Nodup)):=by
  show _=_;rw[Pk.rightB,if_neg h0,show m.length-1=n by omega,List.getD_eq_getElem?_getD,hrt];rfl
 have hn0:(((n:Int)+1)==0)=false:=beq_eq_false_iff_ne.2 (by omega);rw[hn]at h ⊢;obtain⟨g,off,va,rfl,hg,c0,c1,c2,hA⟩:=h.at hrt;obtain⟨vd,vc,hva⟩:=hA.shape;obtain⟨na,hna⟩:∃na,rt.arcs.length=na:=⟨_,rfl⟩;rw[hna]at hva;subst hva;have HS:Hid (StsAt E w (.slice (some ⟨g,off,none⟩) (n+1) cap) m):=h;by_cases hb1:base<1
 · have HF:Hid (Pk.rightB base m=false):=by show _=_;rw[HRR.out,decide_eq_false (by omega)];rfl
   clear h hT HRR hrt;go_enter Tryz.func47,Tryz.ntmps47;go_wp2;go_ret;exact⟨by rw[HF.out];rfl,HB0.out _⟩
 by_cases hb2:1048576<base
 · have HF:Hid (Pk.rightB base m=false):=by show _=_;rw[HRR.out,decide_eq_false (by omega)];rfl
   clear h hT HRR hrt;go_enter Tryz.func47,Tryz.ntmps47;go_wp2;go_ret;exact⟨by rw[HF.out];rfl,HB0.out _⟩
 obtain⟨mb,hmb⟩:∃mb,mb=w.heap.size:=⟨_,rfl⟩;obtain⟨rb,hrb⟩:∃rb,rb=w.heap.size+1:=⟨_,rfl⟩;obtain⟨W2,hW2⟩:∃W2,W2=(w.alloc (.cells #[.int .i64 base,.slice (some ⟨g,off,none⟩) (n+1) cap] 31)).alloc (.cells #[.bool rt.final,.int .i64 rt.out,.slice vd na vc] 56):=⟨_,rfl⟩;have hbw:Below w.heap.size w W2:=by rw[hW2];exact((Below.refl _ w).alloc (Nat.le_refl _) _).alloc (by simp) _
 have hm2:W2.heap[mb]?=some (.cells #[.int .i64 base,.slice (some ⟨g,off,none⟩) (n+1) cap] 31):=by
  rw[hW2,(MapKept.heap_alloc _ _).2 mb (by rw[hmb];simp),hmb];exact zAb _ _
 have hr2:W2.heap[rb]?=some (.cells #[.bool rt.final,.int .i64 rt.out,.slice vd na vc] 56):=by
  have e:(w.alloc (.cells #[.int .i64 base,.slice (some ⟨g,off,none⟩) (n+1) cap] 31)).heap.size=rb:=by rw[hrb];simp
  rw[hW2,←e];exact zAb _ _
 have HBW:Hid (Below w.heap.size w W2):=hbw;have HCL:Hid (∀W,Below W2.heap.size W2 W→W.cell? ⟨mb,0,none⟩=some (.int .i64 base)∧W.cell? ⟨mb,1,none⟩=some (.slice (some ⟨g,off,none⟩) (n+1) cap)):=fun W hW=>by
  have h1:W.heap[mb]?=W2.heap[mb]?:=hW.block mb (Array.getElem?_eq_some_iff.1 hm2).1;exact⟨by simp[World.cell?,h1,hm2],by simp[World.cell?,h1,hm2]⟩
 have r0:W2.cell? ⟨rb,0,none⟩=some (.bool rt.final):=by simp[World.cell?,hr2]
 obtain⟨m0,m1⟩:=HCL.out W2 (Below.refl _ _);have hSW:∀W,Below W2.heap.size W2 W→StsAt E W (.slice (some ⟨g,off,none⟩) (n+1) cap) m∧E≤W.heap.size∧Tabs W:=fun W hW=>by
  have hb:=hbw.trans (hW.mono hbw.size);exact⟨h.below (hb.mono hE),Nat.le_trans hE hb.size,hT.below hb⟩
 have HFO:Hid (∀W,Below W2.heap.size W2 W→Calls Tryz.prog 83 #[.slice (some ⟨g,off,none⟩) (n+1) cap] W fun e w'=>e = .returned (.bool (zBg 0 m))∧Below W2.heap.size W2 w'):=fun W hW=>by
  obtain⟨s1,s2,s3⟩:=hSW W hW;refine(zTf E W m _ s1 s2 s3).mono ?_;rintro e w' ⟨rfl,h2⟩;exact⟨rfl,hW.trans (h2.mono hW.size)⟩
 have HBO:Hid (zBg 0 m=true→∀W,Below W2.heap.size W2 W→Calls Tryz.prog 84 #[.agg #[.int .i64 base,.slice (some ⟨g,off,none⟩) (n+1) cap]] W fun e w'=>e = .returned (.bool (bndB base [] m))∧Below W2.heap.size W2 w'):=fun hf W hW=>by
  obtain⟨s1,s2,s3⟩:=hSW W hW;refine(zPz E W base m _ s1 s2 (by omega) (by omega) hf hm).mono ?_;rintro e w' ⟨rfl,h2⟩;exact⟨rfl,hW.trans (h2.mono hW.size)⟩
 have HNO:Hid (zBg 0 m=true→∀W,Below W2.heap.size W2 W→Calls Tryz.prog 85 #[.slice (some ⟨g,off,none⟩) (n+1) cap] W fun e w'=>e = .returned (.bool (numB m))∧Below W2.heap.size W2 w'):=fun hf W hW=>by
  obtain⟨s1,s2,s3⟩:=hSW W hW;refine(zM6 E W m _ s1 s2 hf hm h0).mono ?_;rintro e w' ⟨rfl,h2⟩;exact⟨rfl,hW.trans (h2.mono hW.size)⟩
 have HUO:Hid (zBg 0 m=true→∀W,Below W2.heap.size W2 W→Calls Tryz.prog 86 #[.slice (some ⟨g,off,none⟩) (n+1) cap] W fun e w'=>e = .returned (.bool (decide m.Nodup))∧Below W2.heap.size W2 w'):=fun hf W hW=>by
  obtain⟨s1,s2,s3⟩:=hSW W hW;refine(zSh E W m _ s1 s2 hf hm h0).mono ?_;rintro e w' ⟨rfl,h2⟩;exact⟨rfl,hW.trans (h2.mono hW.size)⟩
 have HRF:Hid (Pk.rightB base m=(!rt.final&&zBg 0 m&&bndB base [] m&&numB m&&decide m.Nodup)):=by show _=_;rw[HRR.out,decide_eq_true (by omega)];simp
 have hwrp:IntKind.i64.wrap (((n:Int)+1)-1)=(n:Int):=by rw[IntKind.wrap_i64];omega
 have hnz:(n:Int)<(n:Int)+1:=by omega
 have cA:∀(o:Obj) (j:Nat),(w.alloc o).cell? ⟨g,j,none⟩=w.cell? ⟨g,j,none⟩:=fun o j=>((Below.refl _ w).alloc (Nat.le_refl _) o).cell (p:=⟨g,j,none⟩) (Nat.lt_of_lt_of_le hg hE)
 have c0':=fun o=>(cA o _).trans c0
 have c1':=fun o=>(cA o _).trans c1
 have c2':=fun o=>(cA o _).trans c2
 clear h hT HRR hrt hbw hm2 hr2 hSW c0 c1 c2 cA hA;go_enter Tryz.func47,Tryz.ntmps47;go_upto_region 6 with fail
 rw[←hrb,←hmb,←hW2];clear hrb hmb hW2 c0' c1' c2';generalize zBg 0 m=F at *;generalize bndB base [] m=B at *;generalize numB m=N at *;generalize decide m.Nodup=U at *;generalize rt.final=fn at *;cases fn with
 |true=>
  have HX:Hid (Pk.rightB base m=false):=HRF.out;go_wp2;go_ret;exact⟨by rw[HX.out];rfl,HBW.out⟩
 |false=>
 cases F with
 |false=>
  have HX:Hid (Pk.rightB base m=false):=HRF.out
  go_wp2_with (first
   |(go_at_call 83;refine(HFO.out _ (Below.refl _ _)).mono ?_;rintro e wa ⟨rfl,hba⟩;have HBa:Hid (Below W2.heap.size W2 wa):=hba;clear hba;obtain⟨p0,p1⟩:=HCL.out wa HBa.out)
   |(go_at_call 84;refine(HBO.out (by simp) _ HBa.out).mono ?_;rintro e wb ⟨rfl,hbb⟩;have HBb:Hid (Below W2.heap.size W2 wb):=hbb;clear hbb;obtain⟨p2,p3⟩:=HCL.out wb HBb.out)
   |(go_at_call 85;refine(HNO.out (by simp) _ HBb.out).mono ?_;rintro e wc ⟨rfl,hbc⟩;have HBc:Hid (Below W2.heap.size W2 wc):=hbc;clear hbc;obtain⟨p4,p5⟩:=HCL.out wc HBc.out)
   |(go_at_call 86;refine(HUO.out (by simp) _ HBc.out).mono ?_;rintro e wd ⟨rfl,hbd⟩;have HBd:Hid (Below W2.heap.size W2 wd):=hbd;clear hbd))
  go_ret;exact⟨by rw[HX.out];rfl,HBW.out.trans (HBa.out.mono HBW.out.size)⟩
 |true=>
 cases B with
 |false=>
  have HX:Hid (Pk.rightB base m=false):=HRF.out
  go_wp2_with (first
   |(go_at_call 83;refine(HFO.out _ (Below.refl _ _)).mono ?_;rintro e wa ⟨rfl,hba⟩;have HBa:Hid (Below W2.heap.size W2 wa):=hba;clear hba;obtain⟨p0,p1⟩:=HCL.out wa HBa.out)
   |(go_at_call 84;refine(HBO.out (by simp) _ HBa.out).mono ?_;rintro e wb ⟨rfl,hbb⟩;have HBb:Hid (Below W2.heap.size W2 wb):=hbb;clear hbb;obtain⟨p2,p3⟩:=HCL.out wb HBb.out)
   |(go_at_call 85;refine(HNO.out (by simp) _ HBb.out).mono ?_;rintro e wc ⟨rfl,hbc⟩;have HBc:Hid (Below W2.heap.size W2 wc):=hbc;clear hbc;obtain⟨p4,p5⟩:=HCL.out wc HBc.out)
   |(go_at_call 86;refine(HUO.out (by simp) _ HBc.out).mono ?_;rintro e wd ⟨rfl,hbd⟩;have HBd:Hid (Below W2.heap.size W2 wd):=hbd;clear hbd))
  go_ret;exact⟨by rw[HX.out];rfl,HBW.out.trans (HBb.out.mono HBW.out.size)⟩
 |true=>
 cases N with
 |false=>
  have HX:Hid (Pk.rightB base m=false):=HRF.out
  go_wp2_with (first
   |(go_at_call 83;refine(HFO.out _ (Below.refl _ _)).mono ?_;rintro e wa ⟨rfl,hba⟩;have HBa:Hid (Below W2.heap.size W2 wa):=hba;clear hba;obtain⟨p0,p1⟩:=HCL.out wa HBa.out)
   |(go_at_call 84;refine(HBO.out (by simp) _ HBa.out).mono ?_;rintro e wb ⟨rfl,hbb⟩;have HBb:Hid (Below W2.heap.size W2 wb):=hbb;clear hbb;obtain⟨p2,p3⟩:=HCL.out wb HBb.out)
   |(go_at_call 85;refine(HNO.out (by simp) _ HBb.out).mono ?_;rintro e wc ⟨rfl,hbc⟩;have HBc:Hid (Below W2.heap.size W2 wc):=hbc;clear hbc;obtain⟨p4,p5⟩:=HCL.out wc HBc.out)
   |(go_at_call 86;refine(HUO.out (by simp) _ HBc.out).mono ?_;rintro e wd ⟨rfl,hbd⟩;have HBd:Hid (Below W2.heap.size W2 wd):=hbd;clear hbd))
  go_ret;exact⟨by rw[HX.out];rfl,HBW.out.trans (HBc.out.mono HBW.out.size)⟩
 |true=>
  have HX:Hid (Pk.rightB base m=U):=HRF.out;cases U with
  |false=>
   go_wp2_with (first
    |(go_at_call 83;refine(HFO.out _ (Below.refl _ _)).mono ?_;rintro e wa ⟨rfl,hba⟩;have HBa:Hid (Below W2.heap.size W2 wa):=hba;clear hba;obtain⟨p0,p1⟩:=HCL.out wa HBa.out)
    |(go_at_call 84;refine(HBO.out (by simp) _ HBa.out).mono ?_;rintro e wb ⟨rfl,hbb⟩;have HBb:Hid (Below W2.heap.size W2 wb):=hbb;clear hbb;obtain⟨p2,p3⟩:=HCL.out wb HBb.out)
    |(go_at_call 85;refine(HNO.out (by simp) _ HBb.out).mono ?_;rintro e wc ⟨rfl,hbc⟩;have HBc:Hid (Below W2.heap.size W2 wc):=hbc;clear hbc;obtain⟨p4,p5⟩:=HCL.out wc HBc.out)
    |(go_at_call 86;refine(HUO.out (by simp) _ HBc.out).mono ?_;rintro e wd ⟨rfl,hbd⟩;have HBd:Hid (Below W2.heap.size W2 wd):=hbd;clear hbd))
   go_ret;exact⟨by rw[HX.out];rfl,HBW.out.trans (HBd.out.mono HBW.out.size)⟩
  |true=>
   go_wp2_with (first
    |(go_at_call 83;refine(HFO.out _ (Below.refl _ _)).mono ?_;rintro e wa ⟨rfl,hba⟩;have HBa:Hid (Below W2.heap.size W2 wa):=hba;clear hba;obtain⟨p0,p1⟩:=HCL.out wa HBa.out)
    |(go_at_call 84;refine(HBO.out (by simp) _ HBa.out).mono ?_;rintro e wb ⟨rfl,hbb⟩;have HBb:Hid (Below W2.heap.size W2 wb):=hbb;clear hbb;obtain⟨p2,p3⟩:=HCL.out wb HBb.out)
    |(go_at_call 85;refine(HNO.out (by simp) _ HBb.out).mono ?_;rintro e wc ⟨rfl,hbc⟩;have HBc:Hid (Below W2.heap.size W2 wc):=hbc;clear hbc;obtain⟨p4,p5⟩:=HCL.out wc HBc.out)
    |(go_at_call 86;refine(HUO.out (by simp) _ HBc.out).mono ?_;rintro e wd ⟨rfl,hbd⟩;have HBd:Hid (Below W2.heap.size W2 wd):=hbd;clear hbd))
   go_ret;exact⟨by rw[HX.out];rfl,HBW.out.trans (HBd.out.mono HBW.out.size)⟩
structure NwAt(w wr:World)(ob:Nat)(base:Int)(vs:Value)(m:List RSt):Prop where
 bel:Below w.heap.size w wr
 lo:w.heap.size≤ob
 blk:wr.heap[ob]?=some (.cells #[.int .i64 base,vs] 31)
 ap:vs.ownBlock≠some ob
 ex:∃xss,GOwn 56 3 w.heap.size wr vs xss∧xss.length=m.length∧∀(i:Nat) (s:RSt),m[i]?=some s→∃va,xss[i]?=some [.bool s.final,.int .i64 s.out,va]∧ArcsAt wr.heap.size wr va s.arcs∧∀g,va.ownBlock=some g→w.heap.size≤g∧g≠ob∧vs.ownBlock≠some g∧g<wr.heap.size
theorem ArcsAt.grow{E:Nat}{w w':World}{v:Value}{l:List RArc}(h:ArcsAt E w v l)(hE:E≤w.heap.size)(hb:Below w.heap.size w w'):ArcsAt w'.heap.size w' v l:=h.upd (F:=fun _=>False) (Upd.of_below hb) hE (fun _ _=>id)
theorem NwAt.below{w wr w':World}{ob:Nat}{base:Int}{vs:Value}{m:List RSt}(h:NwAt w wr ob base vs m)(hb:Below wr.heap.size wr w'):NwAt w w' ob base vs m:=by
 obtain⟨xss,h1,h2,h3⟩:=h.ex;refine⟨h.bel.trans (hb.mono h.bel.size),h.lo,(hb.block ob (Array.getElem?_eq_some_iff.1 h.blk).1).trans h.blk,h.ap,xss,h1.below hb,h2,fun i s hi=>?_⟩;obtain⟨va,e1,e2,e3⟩:=h3 i s hi;exact⟨va,e1,e2.grow (Nat.le_refl _) hb,fun g hg=>by obtain⟨k1,k2,k3,k4⟩:=e3 g hg;exact⟨k1,k2,k3,Nat.lt_of_lt_of_le k4 hb.size⟩⟩
theorem NwAt.facts{w wr:World}{ob:Nat}{base:Int}{vs:Value}{m:List RSt}(h:NwAt w wr ob base vs m):wr.cell? ⟨ob,0,none⟩=some (.int .i64 base)∧wr.cell? ⟨ob,1,none⟩=some vs∧∀o,wr.frozen? ⟨ob,o,none⟩=false:=⟨by simp[World.cell?,h.blk],by simp[World.cell?,h.blk],fun o=>by simp[World.frozen?,h.blk]⟩
theorem NwAt.more{w V3 V4 W':World}{ob:Nat}{base:Int}{vs v' va:Value}{m:List RSt}{s:RSt}{xss:List (List Value)}(h:NwAt w V3 ob base vs m)(hX:GOwn 56 3 w.heap.size V3 vs xss)(hxl:xss.length=m.length)(hxe:∀(i:Nat) (s:RSt),m[i]?=some s→∃va,xss[i]?=some [.bool s.final,.int .i64 s.out,va]∧ArcsAt V3.heap.size V3 va s.arcs∧∀g,va.ownBlock=some g→w.heap.size≤g∧g≠ob∧vs.ownBlock≠some g∧g<V3.heap.size)
 (hva:ArcsAt V3.heap.size V3 va s.arcs) (hvn:∀g,va.ownBlock=some g→w.heap.size≤g∧g≠ob∧vs.ownBlock≠some g∧g<V3.heap.size) (hb4:Below V3.heap.size V3 V4) (ho:GOwn 56 3 w.heap.size W' v' (xss++[[.bool s.final,.int .i64 s.out,va]])) (hg:V4.grownBy W' vs.ownBlock) (hob:v'.ownBlock=vs.ownBlock∨∃g,v'.ownBlock=some g∧V4.heap.size≤g):
 NwAt w (W'.setCell ⟨ob,1,none⟩ v') ob base v' (m++[s])∧W'.cell? ⟨ob,1,none⟩=some vs∧W'.frozen? ⟨ob,1,none⟩=false:=by
 have hol:ob<V3.heap.size:=(Array.getElem?_eq_some_iff.1 h.blk).1;have hu1:Upd (fun j=>vs.ownBlock=some j) V3 W':=(Upd.of_below hb4).trans (G:=fun j=>vs.ownBlock=some j) ⟨hg.os,hg.tape,hg.output,hg.size,fun j hj hn=>hg.block j hj (fun e=>hn e.symm)⟩ (fun _ _ g=>g);have hblk:W'.heap[ob]?=some (.cells #[.int .i64 base,vs] 31):=(hu1.block ob hol h.ap).trans h.blk;obtain⟨s1,s2,s3,s4⟩:=zA4 W' ob 1 v';have hu2:Upd (fun j=>j=ob) W' (W'.setCell ⟨ob,1,none⟩ v'):=⟨s1,s2,s3,by omega,fun k _ hk=>Below.heap_setCell W' ⟨ob,1,none⟩ v' k hk⟩;have hu:Upd (fun j=>vs.ownBlock=some j∨j=ob) V3 (W'.setCell ⟨ob,1,none⟩ v'):=(hu1.mono fun j e => .inl e).trans (hu2.mono fun j e => .inr e) (fun _ _ g=>g);have hap:v'.ownBlock≠some ob:=fun e=>by
  rcases hob with e2|⟨g,e2,h2⟩
  · exact h.ap (e2▸e)
  · rw[e2]at e;cases e;have:=hb4.size;omega
 have hfar:∀g,g<V3.heap.size→vs.ownBlock≠some g→v'.ownBlock≠some g:=fun g hgl hn e=>by
  rcases hob with e2|⟨g2,e2,h2⟩
  · exact hn (e2▸e)
  · rw[e2]at e;cases e;have:=hb4.size;omega
 refine⟨⟨h.bel.trans (hu.below h.bel.size fun j e=>?_),h.lo,by rw[zAt hblk];rfl,hap,xss++[[.bool s.final,.int .i64 s.out,va]],ho.same fun g hg'=>hu2.block g (ho.lt hg') (fun e=>hap (e▸hg')),by simp[hxl],fun i t hi=>?_⟩,by simp[World.cell?,hblk],by simp[World.frozen?,hblk]⟩
 · rcases e with e|e
   · exact(hX.block e).1
   · have:=h.lo;omega
 · by_cases hi2:i<m.length
   · rw[List.getElem?_append_left hi2]at hi
     obtain⟨vb,e1,e2,e3⟩:=hxe i t hi;refine⟨vb,by rw[List.getElem?_append_left (by omega)];exact e1,e2.upd hu (Nat.le_refl _) (fun g hg' e=>?_),fun g hg'=>?_⟩
     · rcases e with e|e
       · exact(e3 g hg').2.2.1 e
       · exact(e3 g hg').2.1 e
     · exact⟨(e3 g hg').1,(e3 g hg').2.1,hfar g (e3 g hg').2.2.2 (e3 g hg').2.2.1,Nat.lt_of_lt_of_le (e3 g hg').2.2.2 hu.size⟩
   · have hi3:i=m.length:=by
      have:=(List.getElem?_eq_some_iff.1 hi).1;simp at this;omega
     subst hi3;rw[List.getElem?_append_right (Nat.le_refl _)]at hi;simp at hi;subst hi;refine⟨va,by rw[List.getElem?_append_right (by omega),hxl];simp,hva.upd hu (Nat.le_refl _) (fun g hg' e=>?_),fun g hg'=>?_⟩
     · rcases e with e|e
       · exact(hvn g hg').2.2.1 e
       · exact(hvn g hg').2.1 e
     · exact⟨(hvn g hg').1,(hvn g hg').2.1,hfar g (hvn g hg').2.2.2 (hvn g hg').2.2.1,Nat.lt_of_lt_of_le (hvn g hg').2.2.2 hu.size⟩
structure S9n(ob:Nat)(base:Int)(vs:Value)(W:World):Prop where
 c0:W.cell? ⟨ob,0,none⟩=some (.int .i64 base)
 c1:W.cell? ⟨ob,1,none⟩=some vs
theorem S9n.facts{ob:Nat}{base:Int}{vs:Value}{W:World}(h:S9n ob base vs W):W.cell? ⟨ob,0,none⟩=some (.int .i64 base)∧W.cell? ⟨ob,1,none⟩=some vs:=⟨h.1,h.2⟩
theorem NwAt.sts{w wr:World}{ob:Nat}{base:Int}{vs:Value}{m:List RSt}(h:NwAt w wr ob base vs m)(hok:∀s∈m,zB1 s.out)(hl:m.length≤9223372036854775807):StsAt wr.heap.size wr vs m:=by
 obtain⟨xss,h1,h2,h3⟩:=h.ex;refine⟨⟨xss,h1.reads,h2,fun i s hi=>?_⟩,hok,hl⟩;obtain⟨va,e1,e2,_⟩:=h3 i s hi;exact⟨va,e1,e2⟩
def WkLo(B:Nat)(w:World)(wb:Nat)(base:Int)(m:List RSt)(cs:List Nat):Prop:=∀W,w.heap.size≤W.heap.size→(∀j,B≤j→j<w.heap.size→W.heap[j]?=w.heap[j]?)→WkAt W.heap.size W wb base m cs
theorem ArcsAt.move{E:Nat}{w w':World}{v:Value}{l:List RArc}(h:ArcsAt E w v l)(hs:∀g,v.ownBlock=some g→w'.heap[g]?=w.heap[g]?)(hl:∀g,v.ownBlock=some g→g<w'.heap.size):ArcsAt w'.heap.size w' v l:=by
 obtain⟨ad,cap,rfl,hc⟩:=h.row.ex;refine⟨⟨ad,cap,rfl,fun h0=>?_⟩,h.ok,h.len⟩;obtain⟨g,off,rfl,hg,hx⟩:=hc h0;exact⟨g,off,rfl,hl g rfl,fun i j x u hi hj=>(World.cell?_of_block (a:=⟨g,off+i*3+j,none⟩) (hs g rfl)).trans (hx i j x u hi hj)⟩
theorem lo_of{w V:World}{ob wb:Nat}{base:Int}{vs vw:Value}{m:List RSt}{cs:List Nat}{B2:Nat}(hN:NwAt w V ob base vs m)(hok:∀s∈m,zB1 s.out)(hl:m.length≤9223372036854775807)(hw:w.heap.size≤wb)(hb:V.heap[wb]?=some (.cells #[.int .i64 base,vs,vw] 118))(hc:GOwn 3 1 B2 V vw (cs.map zE4))(hB2:w.heap.size≤B2):WkLo w.heap.size V wb base m cs:=by
 intro W hs hk;have hwl:=(Array.getElem?_eq_some_iff.1 hb).1;obtain⟨xss,h1,h2,h3⟩:=hN.ex;have g1:GOwn 56 3 w.heap.size W vs xss:=h1.same fun g hg=>hk g (h1.block hg).1 (h1.lt hg)
 have g2:GOwn 3 1 B2 W vw (cs.map zE4):=hc.same fun g hg=>hk g (Nat.le_trans hB2 (hc.block hg).1) (hc.lt hg)
 refine⟨by omega,vs,vw,(hk wb hw hwl).trans hb,⟨⟨xss,g1.reads,h2,fun i s hi=>?_⟩,hok,hl⟩,g2.reads⟩;obtain⟨va,e1,e2,e3⟩:=h3 i s hi;exact⟨va,e1,e2.move (fun g hg=>hk g (e3 g hg).1 (e3 g hg).2.2.2) (fun g hg=>by have:=(e3 g hg).2.2.2;omega)⟩
structure S7n(ob sb:Nat)(vs:Value)(fn:Bool)(ot:Int)(va:Value)(W:World):Prop where
 c1:W.cell? ⟨ob,1,none⟩=some vs
 d0:W.cell? ⟨sb,0,none⟩=some (.bool fn)
 d1:W.cell? ⟨sb,1,none⟩=some (.int .i64 ot)
 d2:W.cell? ⟨sb,2,none⟩=some va
theorem S7n.facts{ob sb:Nat}{vs:Value}{fn:Bool}{ot:Int}{va:Value}{W:World}(h:S7n ob sb vs fn ot va W):W.cell? ⟨ob,1,none⟩=some vs∧W.cell? ⟨sb,0,none⟩=some (.bool fn)∧W.cell? ⟨sb,1,none⟩=some (.int .i64 ot)∧W.cell? ⟨sb,2,none⟩=some va:=⟨h.1,h.2,h.3,h.4⟩
theorem S7n.of{ob sb:Nat}{vs:Value}{fn:Bool}{ot:Int}{va:Value}{W W':World}(h:S7n ob sb vs fn ot va W)(e1:W'.heap[ob]?=W.heap[ob]?)(e2:W'.heap[sb]?=W.heap[sb]?):S7n ob sb vs fn ot va W':=
 ⟨(World.cell?_of_block (a:=⟨ob,1,none⟩) e1).trans h.1,(World.cell?_of_block (a:=⟨sb,0,none⟩) e2).trans h.2,(World.cell?_of_block (a:=⟨sb,1,none⟩) e2).trans h.3,(World.cell?_of_block (a:=⟨sb,2,none⟩) e2).trans h.4⟩
theorem New_yes(E:Nat)(w:World)(base:Int)(b:List St)(D:List (List En))(hI:Inv D b)(hF:∀R∈D,R.length≤4096)(vs:Value)(h:StsAt E w vs (b.map ofSt))(hE:E≤w.heap.size)(hT:Tabs w)(hm:b.length≤1048576)(hr:Pk.rightB base (b.map ofSt)=true)(hsm:∀s∈b.map ofSt,s.arcs.length≤1114112):
 Calls Tryz.prog 21 #[.agg #[.int .i64 base,vs]] w fun e w'=>∃wb,e = .returned (.tuple #[.pointer (some ⟨wb,0,none⟩),.bool true])∧w.heap.size≤wb∧WkLo w.heap.size w' wb base (b.map ofSt) (D.map List.length)∧Below w.heap.size w w':=by
 obtain⟨m,hmm⟩:∃m,b.map ofSt=m:=⟨_,rfl⟩;have HMM:Hid (b.map ofSt=m):=hmm;rw[hmm]at h hr hsm ⊢;have hml:m.length≤1048576:=by rw[←hmm,List.length_map];exact hm
 obtain⟨ad,cap,rfl⟩:=h.shape;obtain⟨n,hn⟩:∃n,m.length=n:=⟨_,rfl⟩;have HN:Hid (m.length=n):=hn;rw[hn]at h hml ⊢;obtain⟨W1,hW1⟩:∃W1,W1=w.alloc (.cells #[.int .i64 base,.slice ad n cap] 31):=⟨_,rfl⟩;have hb1:Below w.heap.size w W1:=by rw[hW1];exact(Below.refl _ w).alloc (Nat.le_refl _) _
 obtain⟨mb,hmb⟩:∃mb,mb=w.heap.size:=⟨_,rfl⟩;have hn1:W1.heap[mb]?=some (.cells #[.int .i64 base,.slice ad n cap] 31):=by rw[hW1,hmb];exact zAb _ _
 have HRA:Hid (Calls Tryz.prog 47 #[.agg #[.int .i64 base,.slice ad n cap]] W1 fun e w'=>e = .returned (.bool true)∧Below W1.heap.size W1 w'):=by
  have:=zYw E W1 base m _ (h.below (hb1.mono hE)) (Nat.le_trans hE hb1.size) (hT.below hb1) (by omega);rw[hr]at this;exact this
 have HB1:Hid (Below w.heap.size w W1):=hb1;have HN1:Hid (W1.heap[mb]?=some (.cells #[.int .i64 base,.slice ad n cap] 31)):=hn1;have HH:Hid (StsAt E w (.slice ad n cap) m):=h;have hOK:=h.ok;have c0:W1.cell? ⟨mb,0,none⟩=some (.int .i64 base):=by simp[World.cell?,hn1]
 have c1:W1.cell? ⟨mb,1,none⟩=some (.slice ad n cap):=by simp[World.cell?,hn1]
 clear h hT hb1 hn1 hn hmm hr;go_enter Tryz.func21,Tryz.ntmps21;go_upto_region 1 with fail
 rw[←hmb,←hW1];have HMB:Hid (mb=w.heap.size):=hmb;clear hW1 hmb;go_upto_region 3 with(go_at_call 47;refine HRA.out.mono ?_;rintro e w2 ⟨rfl,hb2⟩)
 clear c0 c1;have hk2:w2.heap[mb]?=some (.cells #[.int .i64 base,.slice ad n cap] 31):=(hb2.block mb (Array.getElem?_eq_some_iff.1 HN1.out).1).trans HN1.out;have c0:w2.cell? ⟨mb,0,none⟩=some (.int .i64 base):=by simp[World.cell?,hk2]
 have c1:w2.cell? ⟨mb,1,none⟩=some (.slice ad n cap):=by simp[World.cell?,hk2]
 have hmb2:=(Array.getElem?_eq_some_iff.1 hk2).1;obtain⟨ob,hob⟩:∃ob,ob=w2.heap.size:=⟨_,rfl⟩;obtain⟨W3,hW3⟩:∃W3,W3=w2.alloc (.cells #[.int .i64 base,.slice none 0 0] 31):=⟨_,rfl⟩;have hb3:Below w2.heap.size w2 W3:=by rw[hW3];exact(Below.refl _ w2).alloc (Nat.le_refl _) _
 have hbw2:Below w.heap.size w w2:=HB1.out.trans (hb2.mono HB1.out.size);have HW3:Hid (NwAt w W3 ob base (.slice none 0 0) (m.take 0)):=⟨hbw2.trans (hb3.mono hbw2.size),by have:=hbw2.size;omega,by rw[hW3,hob];exact zAb _ _,fun e=>(by cases e),[],GOwn.nil _ _ _ _,rfl,fun i s hi=>(by simp at hi)⟩;have c1':W3.cell? ⟨mb,1,none⟩=some (.slice ad n cap):=(hb3.cell (p:=⟨mb,1,none⟩) hmb2).trans c1;clear hk2 hb3 hbw2 hb2;go_upto_region 4 with fail
 rw[←hob,←hW3];clear hob hW3 c0 c1;go_wp2
 go_loopg [6,16] n (fun gm _ s16 wr=>∃(k:Nat) (vs2:Value),s16 = .int .i64 k∧k≤n∧n-k≤gm∧Hid (NwAt w wr ob base vs2 (m.take k)))
 case atStart=>exact⟨0,_,by go_num,Nat.zero_le _,by omega,HW3⟩
 case round=>
  obtain⟨k,vs2,rfl,hk,hgm,HNW⟩:=hrel;obtain⟨vd,vn,vc,hvv⟩:∃vd vn vc,vs2 = .slice vd vn vc:=by
   obtain⟨xss,h1,_⟩:=HNW.out.ex;obtain⟨ad,cap,e,_⟩:=h1.shape;exact⟨_,_,_,e⟩
  subst hvv;by_cases hlt:k<n
  · have hltz:(k:Int)<(n:Int):=by omega
    obtain⟨s,hs⟩:∃s,m[k]?=some s:=⟨m[k]'(by have:=HN.out;omega),List.getElem?_eq_getElem _⟩;obtain⟨g,off,va,hgd,hg,x0,x1,x2,hA⟩:=HH.out.at hs;obtain⟨wa,wc,hva⟩:=hA.shape;obtain⟨na,hna⟩:∃na,s.arcs.length=na:=⟨_,rfl⟩;have HNA:Hid (s.arcs.length=na):=hna;rw[hna]at hva;subst hva;subst hgd;have hbl:=HNW.out.bel;have u0:wr.cell? ⟨g,off+k*3,none⟩=some (.bool s.final):=(hbl.cell (p:=⟨g,off+k*3,none⟩) (Nat.lt_of_lt_of_le hg hE)).trans x0;have u1:wr.cell? ⟨g,off+k*3+1,none⟩=some (.int .i64 s.out):=(hbl.cell (p:=⟨g,off+k*3+1,none⟩) (Nat.lt_of_lt_of_le hg hE)).trans x1;have u2:wr.cell? ⟨g,off+k*3+2,none⟩=some (.slice wa na wc):=(hbl.cell (p:=⟨g,off+k*3+2,none⟩) (Nat.lt_of_lt_of_le hg hE)).trans x2;obtain⟨sb,hsb⟩:∃sb,sb=wr.heap.size:=⟨_,rfl⟩;obtain⟨W6,hW6⟩:∃W6,W6=wr.alloc (.cells #[.bool s.final,.int .i64 s.out,.slice wa na wc] 56):=⟨_,rfl⟩;(have hb6:Below wr.heap.size wr W6:=by rw[hW6];exact(Below.refl _ wr).alloc (Nat.le_refl _) _);(have hn6:W6.heap[sb]?=some (.cells #[.bool s.final,.int .i64 s.out,.slice wa na wc] 56):=by rw[hW6,hsb];exact zAb _ _);obtain⟨V3,hV3⟩:∃V3,V3=W6.drew:=⟨_,rfl⟩;(have hb3:Below wr.heap.size wr V3:=by rw[hV3];exact hb6.drew);(have hn3:V3.heap[sb]?=some (.cells #[.bool s.final,.int .i64 s.out,.slice wa na wc] 56):=by rw[hV3];exact hn6);have HN3:Hid (NwAt w V3 ob base (.slice vd vn vc) (m.take k)):=HNW.out.below hb3;have HSBG:Hid (sb=wr.heap.size):=hsb;have hob3:=(Array.getElem?_eq_some_iff.1 HN3.out.blk).1;have hsb3:=(Array.getElem?_eq_some_iff.1 hn3).1;have hS0:S7n ob sb (.slice vd vn vc) s.final s.out (.slice wa na wc) V3:=⟨HN3.out.facts.2.1,by simp[World.cell?,hn3],by simp[World.cell?,hn3],by simp[World.cell?,hn3]⟩
    have HCL:Hid (Calls Tryz.prog 48 #[.agg #[.bool s.final,.int .i64 s.out,.slice wa na wc]] V3 fun e w'=>∃v',e = .returned (.agg #[.bool s.final,.int .i64 s.out,v'])∧(∃ad cap,v' = .slice ad s.arcs.length cap)∧ArcsAt w'.heap.size w' v' s.arcs∧(∀g,v'.ownBlock=some g→V3.heap.size≤g∧g<w'.heap.size)∧Below V3.heap.size V3 w'):=
     zJ7 E V3 s _ (hA.below (HN3.out.bel.mono hE)) (Nat.le_trans hE HN3.out.bel.size) (hsm s (List.mem_of_getElem? hs))
    (have HST:Hid (m.take (k+1)=m.take k++[s]):=by show _=_;rw[List.take_add_one,hs];rfl);clear hb6 hn6 hb3 x0 x1 x2 hA hna hbl hs;(go_upto_region 7 with fail);rw[←hsb,←hW6];clear hsb hW6 u0 u1 u2;have hS0':S7n ob sb (.slice vd vn vc) s.final s.out (.slice wa na wc) W6.drew:=hV3▸hS0;refine zBd (S:=S7n ob sb (.slice vd vn vc) s.final s.out (.slice wa na wc)) 8 7 rfl zAr ?_;rw[←hV3];clear hS0' hV3;refine te2 S7n.facts 0 20 1 21 ?_;simp only[sZa,sZb,sZc];refine te S7n.facts 2 22 ?_;simp only[sZa,sZb,sZc];refine zFu (i:=3) (w0:=V3) 23 48 #[.agg #[.bool s.final,.int .i64 s.out,.slice wa na wc]] (by kernel_rfl) rfl rfl (by rfl) (by kernel_rfl) ?_;refine HCL.out.mono ?_;rintro e V5 ⟨v5,rfl,⟨ad5,cap5,hv5⟩,hA5,hg5,hb5⟩;rw[HNA.out]at hv5;subst hv5;have hS5:S7n ob sb (.slice vd vn vc) s.final s.out (.slice wa na wc) V5:=hS0.of (hb5.block ob hob3) (hb5.block sb hsb3);have HN5:Hid (NwAt w V5 ob base (.slice vd vn vc) (m.take k)):=HN3.out.below hb5;refine⟨_,rfl,hS5,?_⟩;simp only[sZa,sZb,sZc];obtain⟨V4,hV4⟩:∃V4,V4=V5.alloc (.cells #[.bool s.final,.int .i64 s.out,.slice ad5 na cap5] 56):=⟨_,rfl⟩;(have hb4:Below V5.heap.size V5 V4:=by rw[hV4];exact(Below.refl _ V5).alloc (Nat.le_refl _) _);(have hn4:V4.heap[V5.heap.size]?=some (.cells #[.bool s.final,.int .i64 s.out,.slice ad5 na cap5] 56):=by rw[hV4];exact zAb _ _);obtain⟨xss,hX,hxl,hxe⟩:=HN5.out.ex;obtain⟨v',W',hap,ho',hgr,hobk⟩:=zAx rtyS (GOwn.below hX hb4) (Nat.le_trans HN5.out.bel.size hb4.size) (x:=[.bool s.final,.int .i64 s.out,.slice ad5 na cap5]) ⟨rfl,by simp[Value.oneCell']⟩ (nb:=V5.heap.size) (fun j u hj=>by simp only[World.cell?,hn4];simpa using hj) (by rw[hxl,List.length_take];omega) 29 1;obtain⟨vd2,vn2,vc2,hvv2⟩:∃vd vn vc,v' = .slice vd vn vc:=by
     obtain⟨ad,cap,e,_⟩:=GOwn.shape ho';exact⟨_,_,_,e⟩
    subst hvv2;have hsz35:=hb5.size;obtain⟨hNW,hc1,hfz⟩:=HN5.out.more hX hxl hxe hA5 (fun g hg=>by
     obtain⟨k1,k2⟩:=hg5 g hg;refine⟨Nat.le_trans HN3.out.bel.size k1,by omega,fun e=>?_,k2⟩;obtain⟨ys,hY,_⟩:=HN3.out.ex;have:=hY.lt e;omega) hb4 ho' hgr hobk
    have hb45:S7n ob sb (.slice vd vn vc) s.final s.out (.slice wa na wc) V4:=hS5.of (hb4.block ob (by omega)) (hb4.block sb (by omega));have hvsb:(Value.slice vd vn vc).ownBlock≠some sb:=fun e=>by
     obtain⟨ys,hY,_⟩:=HNW.out.ex;have h1:=hY.lt e;have h2:=HSBG.out;omega
    have hS6:S7n ob sb (.slice vd vn vc) s.final s.out (.slice wa na wc) W':=hb45.of (hgr.block ob (by have:=hb4.size;omega) (fun e=>HN5.out.ap e.symm)) (hgr.block sb (by have:=hb4.size;omega) (fun e=>hvsb e.symm));obtain⟨W8,hW8⟩:∃W8,W8=W'.setCell ⟨ob,1,none⟩ (.slice vd2 vn2 vc2):=⟨_,rfl⟩;(have HNX:Hid (NwAt w W8 ob base (.slice vd2 vn2 vc2) (m.take (k+1))):=by rw[hW8,HST.out];exact hNW);have HAP2:Hid ((Builtin.append_ #[29,29] 29 #[.slice vd vn vc,.slice (some ⟨V5.heap.size,0,none⟩) 1 1]).run Tryz.prog V4 = .ok (.slice vd2 vn2 vc2) W'):=hap;clear hap ho' hgr hobk hNW hn4 hb4 hX hxl hxe hA5 hg5 hb5 hvsb;refine zAg (i:=4) (v := .slice (some ⟨V5.heap.size,0,none⟩) 1 1) (w':=V4) 24 (by kernel_rfl) rfl rfl (by rfl) (by rw[hV4];go_simp;first|done|exact rfl) hb45 ?_;simp only[sZa,sZb,sZc];refine zAg (i:=5) (v := .slice vd2 vn2 vc2) (w':=W') 25 (by kernel_rfl) rfl rfl (by rfl) (zCj HAP2.out) hS6 ?_;simp only[sZa,sZb,sZc];refine zAg (i:=6) (v := .pointer (some ⟨ob,1,none⟩)) (w':=W') 26 (by kernel_rfl) rfl rfl (by rfl) (by kernel_rfl) hS6 ?_;simp only[sZa,sZb,sZc];refine zA6 (w':=W8) (by kernel_rfl) rfl rfl (by rfl) (by rw[hW8];go_simp;first|done|exact rfl) (by kernel_rfl) ?_;clear hV4 hW8 hc1 hfz hb45 hS6 hS5 hS0;go_wp2;go_roundg (n-(k+1));(case measure=>omega);case rel=>exact⟨k+1,_,by go_num,by omega,Nat.le_refl _,HNX⟩
  · have hltz:¬(k:Int)<(n:Int):=by omega
    (have hkn:k=n:=by omega);subst hkn;have HNF:Hid (NwAt w wr.drew ob base (.slice vd vn vc) m):=by
     have e:m.take k=m:=List.take_of_length_le (by rw[HN.out];exact Nat.le_refl _);have:=HNW.out.below (Below.refl _ wr).drew;rw[e]at this;exact this
    have hS9:S9n ob base (.slice vd vn vc) wr.drew:=⟨HNF.out.facts.1,HNF.out.facts.2.1⟩
    have HCO:Hid (Calls Tryz.prog 49 #[.slice vd vn vc] wr.drew fun e w'=>∃vw,e = .returned vw∧CtAt wr.drew.heap.size wr.drew w' vw (D.map List.length)):=
     zPo wr.drew.heap.size wr.drew b D hI hF _ (by rw[HMM.out];exact HNF.out.sts hOK (by have:=HN.out;omega)) (Nat.le_refl _) hm
    have hobr:=(Array.getElem?_eq_some_iff.1 HNF.out.blk).1;(go_upto_region 9 with fail);refine zAh (S:=S9n ob base (.slice vd vn vc)) 8 rfl zAr hS9 (fun _=>?_);refine tq2 S9n.facts 0 28 1 29 ?_;simp only[sZa,sZb,sZc];refine tq S9n.facts 2 30 ?_;simp only[sZa,sZb,sZc];refine oc 3 wr.drew 31 49 #[.slice vd vn vc] ?_;refine HCO.out.mono ?_;rintro e V5 ⟨vw,rfl,hct⟩;(obtain⟨wd,wn,wc,hvw⟩:∃a n c,vw=Value.slice a n c:=by obtain⟨a,c,e,_⟩:=hct.own.shape;exact⟨_,_,_,e⟩);subst hvw;have HN5:Hid (NwAt w V5 ob base (.slice vd vn vc) m):=HNF.out.below hct.bel;have hS5:S9n ob base (.slice vd vn vc) V5:=⟨HN5.out.facts.1,HN5.out.facts.2.1⟩;refine⟨_,rfl,hS5,fun _=>?_⟩;simp only[sZa,sZb,sZc];obtain⟨V6,hV6⟩:∃V6,V6=V5.alloc (.cells #[.int .i64 base,.slice vd vn vc,.slice wd wn wc] 118):=⟨_,rfl⟩;(have hb6:Below V5.heap.size V5 V6:=by rw[hV6];exact(Below.refl _ V5).alloc (Nat.le_refl _) _);(have hn6:V6.heap[V5.heap.size]?=some (.cells #[.int .i64 base,.slice vd vn vc,.slice wd wn wc] 118):=by rw[hV6];exact zAb _ _);have HN6:Hid (NwAt w V6 ob base (.slice vd vn vc) m):=HN5.out.below hb6;have hS6:S9n ob base (.slice vd vn vc) V6:=⟨HN6.out.facts.1,HN6.out.facts.2.1⟩;have hsd:w.heap.size≤wr.drew.heap.size:=HNF.out.bel.size;have HWF:Hid (WkLo w.heap.size V6 V5.heap.size base m (D.map List.length)):=lo_of HN6.out hOK (by have:=HN.out;omega) HN5.out.bel.size hn6 (hct.below hb6).own hsd;have HLO:Hid (w.heap.size≤V5.heap.size):=HN5.out.bel.size;clear hct hb6 hn6 hS9 hS5;refine tq S9n.facts 4 32 ?_;simp only[sZa,sZb,sZc];refine zAo (i:=5) (v := .pointer (some ⟨V5.heap.size,0,none⟩)) (w':=V6) 33 (by kernel_rfl) rfl rfl (by rfl) (by rw[hV6];go_simp;first|done|exact rfl) hS6 (fun _=>?_);simp only[sZa,sZb,sZc];refine tq2 S9n.facts 6 2 7 3 ?_;simp only[sZa,sZb,sZc];refine wpAnyH_done (by kernel_rfl) ?_ _;clear hV6 hS6;go_wp2;go_ret2;exact⟨_,rfl,HLO.out,HWF.out,HN6.out.bel⟩
end
section
open Go.RowKit Nums Fm Pk Pm
theorem built_at{B:Nat}{w:World}{vs:Value}{l:List Pr}{b:List St}(h:StRow B w vs b)(hC:zAl l=0)(hb:(zAf l).2=b):StsAt w.heap.size w vs (b.map ofSt):=by
 obtain⟨xss,h1,h2,h3⟩:=h;have hf:=zPy hC;have hlen:=zRa (l:=l);rw[hb]at hf hlen;refine⟨⟨xss,h1.reads,by rw[h2,List.length_map],fun i s hi=>?_⟩,fun s hs=>?_,by rw[List.length_map];omega⟩
 · rw[List.getElem?_map]at hi
   obtain⟨t,ht,rfl⟩:=Option.map_eq_some_iff.1 hi;obtain⟨va,e1,e2⟩:=h3 i t ht;(have hcell:(t.arcs.map zAs).map zBj=t.arcs.map zCv:=by rw[List.map_map];rfl);refine⟨va,e1,⟨by rw[show(ofSt t).arcs=t.arcs.map zAs from rfl,hcell];exact GOwn.reads e2,fun a ha=>?_,?_⟩⟩
   · obtain⟨x,hx,rfl⟩:=List.mem_map.1 ha
     obtain⟨p1,p2,p3⟩:=(hf i t ht).2 x hx;have hi':=(List.getElem?_eq_some_iff.1 ht).1;simp only[OkRA,zAs,zIy,zB1];omega
   · have:=GOwn.reads e2
     obtain⟨ad,cap,e,_⟩:=GOwn.shape e2;have hsm:(t.arcs.map zCv).length≤maxLen:=by
      obtain⟨_,hl,⟨_,h0⟩|⟨g,cap,cur,_,_,_,h3,h4,_⟩⟩:=e2
      · omega
      · omega
     rw[List.length_map]at hsm;unfold maxLen at hsm;show(t.arcs.map zAs).length≤_;rw[List.length_map];omega
 · obtain⟨t,ht,rfl⟩:=List.mem_map.1 hs
   obtain⟨i,hi,rfl⟩:=List.getElem_of_mem ht;have:=(hf i _ (List.getElem?_eq_getElem hi)).1;simp only[ofSt,zB1];omega
theorem StRow.form{B:Nat}{w:World}{vs:Value}{b:List St}(h:StRow B w vs b):∃ad n cap,vs = .slice ad n cap∧b.length=n:=by
 obtain⟨xss,h1,h2,_⟩:=h;obtain⟨ad,cap,h3,_⟩:=h1.shape;exact⟨ad,_,cap,h3,h2.symm⟩
def zOd(B:Nat)(w:World)(wb:Nat)(l:List Pr):Prop:=∀W,w.heap.size≤W.heap.size→(∀j,B≤j→j<w.heap.size→W.heap[j]?=w.heap[j]?)→Tabs W→WkOn W wb l
theorem NewW_lo(B:Nat)(w:World)(l:List Pr)(base:Int)(vs:Value)(b:List St)(hC:zAl l=0)(hrow:StRow B w vs b)(hmach:zAf l=(base,b))(hT:Tabs w):
 Calls Tryz.prog 21 #[.agg #[.int .i64 base,vs]] w fun e w'=>∃wb,e = .returned (.tuple #[.pointer (some ⟨wb,0,none⟩),.bool true])∧w.heap.size≤wb∧zOd w.heap.size w' wb l∧Below w.heap.size w w':=by
 have hb2:(zAf l).2=b:=by rw[hmach]
 have hb1:(zAf l).1=base:=by rw[hmach]
 have hS:=built_at hrow hC hb2;have hr:Pk.rightB base (b.map ofSt)=true:=by have:=zIt hC;rw[hmach]at this;exact this
 have hfew:b.length≤1048576:=by have:=zRa (l:=l);rw[hmach]at this;simp only at this;omega
 obtain⟨D,hI,hF,hM⟩:∃D,Inv D b∧(∀R∈D,R.length≤4096)∧(l≠[]→MW l (zAf l).1 (zAf l).2 D):=by
  by_cases hl:l=[]
  · subst hl
    (have:b=[]:=by rw[←hb2];rfl);subst this;exact⟨[],Inv.nil,fun R hR=>(by cases hR),fun h=>absurd rfl h⟩
  · obtain⟨D,M⟩:=mach_walk hC hl
    exact⟨D,by have:=M.inv;rw[hb2]at this;exact this,M.rst.few,fun _=>M⟩
 have hsm:∀s∈b.map ofSt,s.arcs.length≤1114112:=fun s hs=>by
  obtain⟨t,ht,rfl⟩:=List.mem_map.1 hs;obtain⟨i,hi,rfl⟩:=List.getElem_of_mem ht;exact zLz hC (n:=i) (by rw[hb2];exact List.getElem?_eq_getElem hi)
 refine(New_yes w.heap.size w base b D hI hF vs hS (Nat.le_refl _) hT hfew hr hsm).mono ?_;rintro e w' ⟨wb,rfl,h1,h2,h3⟩;exact⟨wb,rfl,h1,fun W hs hk hTW=>⟨hC,hTW,D,hM,by rw[hb2];exact hI,by rw[hb1,hb2];exact h2 W hs hk⟩,h3⟩
theorem zH0:∀(l:List Pr) (p:Option Pr),zAu p l=true→zBc p l=0
 |[],_,_=>rfl
 |x::r,p,h=>by
  rw[zAu]at h;simp only[Bool.and_eq_true]at h;obtain⟨h1,h2,h3⟩:=h;unfold zE8 at h1;simp only[Bool.and_eq_true,decide_eq_true_eq]at h1;rw[zBc,zVo h1.1 (by omega) (by omega) h2,if_pos rfl];exact zH0 r (some x) h3
theorem zOz{l:List Pr}(h:zDy l=true):zAl l=0:=by
 unfold zDy at h;simp only[Bool.and_eq_true,decide_eq_true_eq]at h;unfold zAl;rw[if_neg (by omega)];exact zH0 l none h.2
theorem zGl{tmps:Array Value}{w:World}{qb:Nat}{a b c d:Value}(h2:tmps.getD 4 undef = .pointer (some ⟨qb,0,none⟩))(h5:tmps.getD 5 undef=d)(c0:w.cell? ⟨qb,0,none⟩=some a)(c1:w.cell? ⟨qb,1,none⟩=some b)(c2:w.cell? ⟨qb,2,none⟩=some c):(results Tryz.f91 tmps).run Tryz.prog w = .ok (.tuple #[.agg #[a,b,c],d]) w:=by
 have h2':tmps[4]?.getD undef = .pointer (some ⟨qb,0,none⟩):=by simpa using h2
 have h5':tmps[5]?.getD undef=d:=by simpa using h5
 simp[results,Tryz.results91,go_sem,h2',h5',c0,c1,c2]
structure QB(w:World)(qb:Nat)(W:World):Prop where
 bel:Below w.heap.size w W
 lo:w.heap.size≤qb
 blk:W.heap[qb]?=some (.cells #[.bool false,.int .i64 0,.slice none 0 0] 56)
theorem QB.facts{w:World}{qb:Nat}{W:World}(h:QB w qb W):W.cell? ⟨qb,0,none⟩=some (.bool false)∧W.cell? ⟨qb,1,none⟩=some (.int .i64 0)∧W.cell? ⟨qb,2,none⟩=some (.slice none 0 0)∧W.frozen? ⟨qb,0,none⟩=false∧W.frozen? ⟨qb,1,none⟩=false∧W.frozen? ⟨qb,2,none⟩=false:=
 ⟨by simp[World.cell?,h.blk],by simp[World.cell?,h.blk],by simp[World.cell?,h.blk],by simp[World.frozen?,h.blk],by simp[World.frozen?,h.blk],by simp[World.frozen?,h.blk]⟩
theorem QB.below{w:World}{qb:Nat}{W W':World}(h:QB w qb W)(hb:Below W.heap.size W W'):QB w qb W':=⟨h.bel.trans (hb.mono h.bel.size),h.lo,(hb.block qb (Array.getElem?_eq_some_iff.1 h.blk).1).trans h.blk⟩
theorem QB.set{w:World}{qb:Nat}{W:World}(h:QB w qb W)(f:Bool)(o:Int)(va:Value):(((W.setCell ⟨qb,0,none⟩ (.bool f)).setCell ⟨qb,1,none⟩ (.int .i64 o)).setCell ⟨qb,2,none⟩ va).heap[qb]?=some (.cells #[.bool f,.int .i64 o,va] 56)∧Upd (fun k=>k=qb) W (((W.setCell ⟨qb,0,none⟩ (.bool f)).setCell ⟨qb,1,none⟩ (.int .i64 o)).setCell ⟨qb,2,none⟩ va):=
 ⟨by rw[zAt (zAt (zAt h.blk _) _) _];rfl,zBn (F:=fun k=>k=qb) (zBn (F:=fun k=>k=qb) (zBn (F:=fun k=>k=qb) (Upd.refl _ _) _ rfl) _ rfl) _ rfl⟩
theorem QB.start(w:World){qb:Nat}(hq:qb=w.heap.size):QB w qb (w.alloc (.cells #[.bool false,.int .i64 0,.slice none 0 0] 56)):=⟨(Below.refl _ w).alloc (Nat.le_refl _) _,by omega,by rw[hq];exact zAb _ _⟩
theorem State_no(w:World)(wb:Nat)(l:List Pr)(h:WkOn w wb l)(i:Int)(hi:¬(0≤i∧i<((zAf l).2.length:Int))):
 Calls Tryz.prog 91 #[.pointer (some ⟨wb,0,none⟩),.int .i64 i] w fun e w'=>e = .returned (.tuple #[.agg #[.bool false,.int .i64 0,.slice none 0 0],.bool false])∧Below w.heap.size w w':=by
 obtain⟨qb,hqb⟩:∃qb,qb=w.heap.size:=⟨_,rfl⟩;obtain⟨W1,hW1⟩:∃W1,W1=w.alloc (.cells #[.bool false,.int .i64 0,.slice none 0 0] 56):=⟨_,rfl⟩;have HQB:Hid (QB w qb W1):=by show QB _ _ _;rw[hW1];exact QB.start w hqb
 obtain⟨z0,z1,z2,f0,f1,f2⟩:=HQB.out.facts;obtain⟨D,_,_,hWk⟩:=h.at';obtain⟨sd,sc,wd,wc,q0,q1,q2,hSt,_⟩:=hWk.facts;obtain⟨n,hn⟩:∃n,(zAf l).2.length=n:=⟨_,rfl⟩;rw[List.length_map,hn]at q1;rw[hn]at hi;have u1:W1.cell? ⟨wb,1,none⟩=some (.slice sd n sc):=(HQB.out.bel.cell (p:=⟨wb,1,none⟩) hWk.lt).trans q1;clear h hWk q0 q1 q2 hSt hn;by_cases h0:i<0
 · clear hi
   go_enter Tryz.func91,Tryz.ntmps91;(go_upto_region 1 with fail);rw[←hqb,←hW1];clear hqb hW1;go_wp2;obtain⟨e1,e2⟩:=HQB.out.set false 0 (.slice none 0 0);generalize (((W1.setCell ⟨qb,0,none⟩ (.bool false)).setCell ⟨qb,1,none⟩ (.int .i64 0)).setCell ⟨qb,2,none⟩ (.slice none 0 0))=W9 at e1 e2 ⊢;refine bodyPost_ret (zGl (a := .bool false) (b := .int .i64 0) (c := .slice none 0 0) (d := .bool false) rfl rfl (by simp[World.cell?,e1]) (by simp[World.cell?,e1]) (by simp[World.cell?,e1])) rfl ?_;exact⟨rfl,HQB.out.bel.trans (e2.below HQB.out.bel.size (fun k e=>by have:=HQB.out.lo;omega))⟩
 · have h1:(n:Int)≤i:=by omega
   clear hi;go_enter Tryz.func91,Tryz.ntmps91;(go_upto_region 1 with fail);rw[←hqb,←hW1];clear hqb hW1;go_wp2;obtain⟨e1,e2⟩:=HQB.out.set false 0 (.slice none 0 0);generalize (((W1.setCell ⟨qb,0,none⟩ (.bool false)).setCell ⟨qb,1,none⟩ (.int .i64 0)).setCell ⟨qb,2,none⟩ (.slice none 0 0))=W9 at e1 e2 ⊢;refine bodyPost_ret (zGl (a := .bool false) (b := .int .i64 0) (c := .slice none 0 0) (d := .bool false) rfl rfl (by simp[World.cell?,e1]) (by simp[World.cell?,e1]) (by simp[World.cell?,e1])) rfl ?_;exact⟨rfl,HQB.out.bel.trans (e2.below HQB.out.bel.size (fun k e=>by have:=HQB.out.lo;omega))⟩
theorem zYs(w:World)(wb:Nat)(l:List Pr)(h:WkOn w wb l)(k:Nat)(t:St)(ht:(zAf l).2[k]?=some t):
 Calls Tryz.prog 91 #[.pointer (some ⟨wb,0,none⟩),.int .i64 (k:Int)] w fun e w'=>∃ad cap,e = .returned (.tuple #[.agg #[.bool t.final,.int .i64 t.out,.slice ad t.arcs.length cap],.bool true])∧ArcsAt w'.heap.size w' (.slice ad t.arcs.length cap) (t.arcs.map zAs)∧(∀g,(Value.slice ad t.arcs.length cap).ownBlock=some g→w.heap.size≤g∧g<w'.heap.size)∧Below w.heap.size w w':=by
 obtain⟨qb,hqb⟩:∃qb,qb=w.heap.size:=⟨_,rfl⟩;obtain⟨W1,hW1⟩:∃W1,W1=w.alloc (.cells #[.bool false,.int .i64 0,.slice none 0 0] 56):=⟨_,rfl⟩;have HQB:Hid (QB w qb W1):=by show QB _ _ _;rw[hW1];exact QB.start w hqb
 obtain⟨D,_,_,hWk⟩:=h.at';obtain⟨sd,sc,wd,wc,q0,q1,q2,hSt,_⟩:=hWk.facts;obtain⟨n,hn⟩:∃n,(zAf l).2.length=n:=⟨_,rfl⟩;have hlm:((zAf l).2.map ofSt).length=n:=by rw[List.length_map,hn]
 rw[hlm]at q1 hSt;have hkn:=(List.getElem?_eq_some_iff.1 ht).1;rw[hn]at hkn;obtain⟨g,off,va,hgd,hg,x0,x1,x2,hA⟩:=hSt.at (k:=k) (s:=ofSt t) (by rw[List.getElem?_map,ht];rfl);obtain⟨ta,tc,hva⟩:=hA.shape;obtain⟨na,hna⟩:∃na,t.arcs.length=na:=⟨_,rfl⟩;have hna2:(ofSt t).arcs.length=na:=by show(t.arcs.map zAs).length=na;rw[List.length_map,hna]
 rw[hna2]at hva;subst hva;subst hgd;have hb1:=HQB.out.bel;have hlen:=hSt.len;rw[hlm]at hlen;have u1:W1.cell? ⟨wb,1,none⟩=some (.slice (some ⟨g,off,none⟩) n sc):=(hb1.cell (p:=⟨wb,1,none⟩) hWk.lt).trans q1;have y0:W1.cell? ⟨g,off+k*3,none⟩=some (.bool t.final):=(hb1.cell (p:=⟨g,off+k*3,none⟩) hg).trans x0;have y1:W1.cell? ⟨g,off+k*3+1,none⟩=some (.int .i64 t.out):=(hb1.cell (p:=⟨g,off+k*3+1,none⟩) hg).trans x1;have y2:W1.cell? ⟨g,off+k*3+2,none⟩=some (.slice ta na tc):=(hb1.cell (p:=⟨g,off+k*3+2,none⟩) hg).trans x2;have HCL:Hid (Calls Tryz.prog 48 #[.agg #[.bool t.final,.int .i64 t.out,.slice ta na tc]] W1 fun e w'=>∃ad cap,e = .returned (.agg #[.bool t.final,.int .i64 t.out,.slice ad na cap])∧ArcsAt w'.heap.size w' (.slice ad na cap) (t.arcs.map zAs)∧(∀g,(Value.slice ad na cap).ownBlock=some g→W1.heap.size≤g∧g<w'.heap.size)∧Below W1.heap.size W1 w'):=by
  refine(zJ7 w.heap.size W1 (ofSt t) _ (hA.below hb1) hb1.size (zLz h.ok ht)).mono ?_;rintro e w' ⟨v',rfl,⟨ad,cap,hv⟩,h1,h2,h3⟩;rw[hna2]at hv;subst hv;exact⟨ad,cap,rfl,h1,h2,h3⟩
 have hkz:(k:Int)<(n:Int):=by omega
 have hkz2:¬(n:Int)≤(k:Int):=by omega
 rw[hna];clear h hWk q0 q1 q2 hSt hn hlm ht hA hna hna2 hb1 x0 x1 x2 hg;go_enter Tryz.func91,Tryz.ntmps91;go_upto_region 1 with fail
 rw[←hqb,←hW1];clear hqb hW1;go_wp2_with (go_at_call 48;refine HCL.out.mono ?_;rintro e w2 ⟨ad2,cap2,rfl,hA2,hg2,hb2⟩;have HA2:Hid (ArcsAt w2.heap.size w2 (.slice ad2 na cap2) (t.arcs.map zAs)):=hA2;have HG2:Hid _:=hg2;have HQ2:Hid (QB w qb w2):=HQB.out.below hb2;obtain⟨z0,z1,z2,f0,f1,f2⟩:=HQ2.out.facts;clear hA2 hg2 hb2);obtain⟨e1,e2⟩:=HQ2.out.set t.final t.out (.slice ad2 na cap2);generalize (((w2.setCell ⟨qb,0,none⟩ (.bool t.final)).setCell ⟨qb,1,none⟩ (.int .i64 t.out)).setCell ⟨qb,2,none⟩ (.slice ad2 na cap2))=W9 at e1 e2 ⊢;refine bodyPost_ret (zGl (a := .bool t.final) (b := .int .i64 t.out) (c := .slice ad2 na cap2) (d := .bool true) rfl rfl (by simp[World.cell?,e1]) (by simp[World.cell?,e1]) (by simp[World.cell?,e1])) rfl ?_;have hql:=HQB.out.lo;have hqs:=(Array.getElem?_eq_some_iff.1 HQB.out.blk).1;exact⟨ad2,cap2,rfl,HA2.out.upd e2 (Nat.le_refl _) (fun g hg e=>by have:=(HG2.out g hg).1;omega),(fun g hg=>by have:=HG2.out g hg;have:=HQB.out.bel.size;have:=e2.size;omega),HQ2.out.bel.trans (e2.below HQ2.out.bel.size (fun k e=>by omega))⟩
end
