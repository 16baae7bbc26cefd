import Derived.Test.YtobjpljdgieklaaGreatDoorJ32
import Derived.Test.YtobjpljdgieklaaGreatDoorJ16
import Derived.TacticsInMore
import Derived.OwnWalkIn
set_option maxRecDepth 100000
namespace Go.Proofs.YtobjpljdgieklaaGreatDoor
section
open Go.RowKit Nums Fm Pk
attribute [local go_sem] Oper.semAt_some
def zJ7(c:Int):List Value:=[.int .i32 c]
theorem zW9(c:Int):zG2 1 (zJ7 c):=⟨rfl,by simp[zJ7,Value.oneCell']⟩
theorem rtyC:RTy 21 122 1 4:=⟨by kernel_rfl,⟨.int .i32 0,by kernel_rfl,rfl⟩,by decide,by decide⟩
abbrev COwn(B:Nat)(w:World)(v:Value)(l:List Int):Prop:=GOwn 21 1 B w v (l.map zJ7)
theorem COwn.row{B:Nat}{w:World}{v:Value}{l:List Int}(h:COwn B w v l):Row w v l:=by
 obtain⟨ad,cap,hv,_⟩:=GOwn.shape h;rw[List.length_map]at hv;refine⟨ad,cap,hv,fun h0=>?_⟩;obtain⟨g,c2,hv2,hg,_,_,hc⟩:=GOwn.cell h (by rw[List.length_map];exact h0);rw[hv]at hv2;simp only[Value.slice.injEq]at hv2;refine⟨g,0,hv2.1,fun i hi=>?_⟩;have e:(l.map zJ7)[i]?=some (zJ7 (l.getD i 0)):=by
  rw[List.getElem?_map,List.getElem?_eq_getElem hi,List.getD_eq_getElem?_getD,List.getElem?_eq_getElem hi];rfl
 have:=hc i 0 _ _ e rfl;rw[Nat.mul_one,Nat.add_zero]at this;rw[Nat.zero_add];exact this
theorem GOwn.pop{T:TypeId}{k B:Nat}{w:World}{v:Value}{xss:List (List Value)}{x:List Value}(h:GOwn T k B w v (xss++[x])):∃g cap,v = .slice (some ⟨g,0,none⟩) (xss.length+1) cap∧xss.length+1≤cap∧GOwn T k B w (.slice (some ⟨g,0,none⟩) xss.length cap) xss:=by
 obtain⟨hc,hl,⟨e,h0⟩|⟨g,cap,cur,hv,h1,hh,h3,h4,h5,h6⟩⟩:=h
 · simp at h0
 · rw[List.length_append,List.length_singleton]at hv h3 hl h6
   (have hk:∀y∈xss,y.length=k:=fun y hy=>(hc y (List.mem_append.2 (.inl hy))).1);have hfl:xss.flatten.length=xss.length*k:=by
    clear h6 hl hv h3 hc
    induction xss with
    |nil=>simp
    |cons y r ih=>rw[List.flatten_cons,List.length_append,hk y (by simp),ih (fun z hz=>hk z (by simp[hz])),List.length_cons,Nat.add_mul];omega
   refine⟨g,cap,hv,h3,fun y hy=>hc y (List.mem_append.2 (.inl hy)),hfl,.inr ⟨g,cap,cur,rfl,h1,hh,by omega,h4,h5,?_⟩⟩;have h7:=congrArg (List.take (xss.length*k)) h6;rw[List.take_take,List.flatten_append,←hfl,List.take_left]at h7;rw[←h7,hfl];congr 1;have:xss.length*k≤(xss.length+1)*k:=Nat.mul_le_mul_right _ (by omega);omega
structure TrAt(B:Nat)(W:World)(tb wb k:Nat)(pv yv:Value)(path:List Int):Prop where
 lo:B≤tb
 blk:W.heap[tb]?=some (.cells #[.pointer (some ⟨wb,0,none⟩),.int .i64 (k:Int),pv,yv] 210)
 row:COwn B W pv path
theorem TrAt.lt{B:Nat}{W:World}{tb wb k:Nat}{pv yv:Value}{path:List Int}(h:TrAt B W tb wb k pv yv path):tb<W.heap.size:=(Array.getElem?_eq_some_iff.1 h.blk).1
theorem TrAt.facts{B:Nat}{W:World}{tb wb k:Nat}{pv yv:Value}{path:List Int}(h:TrAt B W tb wb k pv yv path):W.cell? ⟨tb,0,none⟩=some (.pointer (some ⟨wb,0,none⟩))∧W.cell? ⟨tb,1,none⟩=some (.int .i64 (k:Int))∧W.cell? ⟨tb,2,none⟩=some pv∧W.cell? ⟨tb,3,none⟩=some yv∧∀o,W.frozen? ⟨tb,o,none⟩=false:=
 ⟨by simp[World.cell?,h.blk],by simp[World.cell?,h.blk],by simp[World.cell?,h.blk],by simp[World.cell?,h.blk],fun o=>by simp[World.frozen?,h.blk]⟩
theorem TrAt.kept{B:Nat}{W W':World}{tb wb k:Nat}{pv yv:Value}{path:List Int}(h:TrAt B W tb wb k pv yv path)(e1:W'.heap[tb]?=W.heap[tb]?)(e2:∀g,pv.ownBlock=some g→W'.heap[g]?=W.heap[g]?):TrAt B W' tb wb k pv yv path:=
 ⟨h.lo,e1.trans h.blk,GOwn.same h.row e2⟩
theorem TrAt.below{B:Nat}{W W':World}{tb wb k:Nat}{pv yv:Value}{path:List Int}(h:TrAt B W tb wb k pv yv path)(hb:Below W.heap.size W W'):TrAt B W' tb wb k pv yv path:=
 h.kept (hb.block tb h.lt) (fun g hg=>hb.block g (GOwn.lt h.row hg))
theorem zTn(B:Nat)(W:World)(tb wb k:Nat)(pv yv:Value)(path:List Int)(weight:Int)(h:TrAt B W tb wb (k+1) pv yv path)(hk:k+1≤9223372036854775807):
 Calls Tryz.prog 166 #[.pointer (some ⟨tb,0,none⟩),.int .i64 weight] W fun e W'=>e = .returned (.bool true)∧W'=W.setCell ⟨tb,1,none⟩ (.int .i64 (k:Int)):=by
 obtain⟨c0,c1,c2,c3,fz⟩:=h.facts;have fz1:=fz 1;have hz:(0:Int)<((k+1:Nat):Int):=by omega
 have hz2:((k+1:Nat):Int)-1=(k:Int):=by omega
 clear h;go_enter Tryz.func166,Tryz.ntmps166;go_wp2;go_ret;exact⟨rfl,rfl⟩
theorem tell_now(B:Nat)(W:World)(tb wb:Nat)(pv yv:Value)(path:List Int)(weight:Int)(h:TrAt B W tb wb 0 pv yv path)(hT:Tabs W)(hp:path.length≤24)(I X:CI)(A:Nat→Prop)(pre:List Pr)(hI:zF5 B I)(T:List Pr)(hY:zXq T yv I X)(hPT:pre++[(zAv path,weight)]<+:T)(hA:Lies A W)(h0:I A pre W):
 Calls Tryz.prog 166 #[.pointer (some ⟨tb,0,none⟩),.int .i64 weight] W (zXr I X A pre (zAv path,weight) W):=by
 obtain⟨c0,c1,c2,c3,fz⟩:=h.facts;have HTX:Hid (Calls Tryz.prog 153 #[pv] W fun e w'=>e = .returned (.tuple #[.string (zAv path),.bool (allR path)])∧Below W.heap.size W w'):=zLw pv path W hT h.row.row (by omega);have HTR:Hid (TrAt B W tb wb 0 pv yv path):=h;have HC3:Hid (∀w',Below W.heap.size W w'→w'.cell? ⟨tb,3,none⟩=some yv):=fun w' hb=>(HTR.out.below hb).facts.2.2.2.1
 have HY:Hid (∀w',Below W.heap.size W w'→YC yv (zAv path,weight) w' (zXr I X A pre (zAv path,weight) W)):=fun w' hb=>by
  refine(hY A pre (zAv path,weight) w' hPT (hI _ _ _ _ h0 (Upd.of_below hb)) (fun k hk=>Nat.lt_of_lt_of_le (hA k hk) hb.size)).mono ?_;rintro e w2 (⟨rfl,A',h1,h2,h3,h4⟩|⟨rfl,A',h1,h2,h3,h4⟩)
  · exact .inl ⟨rfl,A',⟨h1.1,fun k hk=>(h1.2 k hk).imp id (fun g=>Nat.le_trans hb.size g)⟩,h2,(Upd.of_below hb).trans h3 (fun _ _ h=>h),h4⟩
  · exact .inr ⟨rfl,A',⟨h1.1,fun k hk=>(h1.2 k hk).imp id (fun g=>Nat.le_trans hb.size g)⟩,h2,(Upd.of_below hb).trans h3 (fun _ _ h=>h),h4⟩
 obtain⟨R,hR⟩:∃R,zXr I X A pre (zAv path,weight) W=R:=⟨_,rfl⟩;rw[hR]at HY ⊢;have HRB:Hid (∀e w',R e w'→∃b,e = .returned (.bool b)):=fun e w' he=>by
  rw[←hR]at he;rcases he with⟨rfl,_⟩|⟨rfl,_⟩
  · exact⟨_,rfl⟩
  · exact⟨_,rfl⟩
 obtain⟨tx,htx⟩:∃tx,zAv path=tx:=⟨_,rfl⟩;rw[htx]at HY HTX;clear hI hY hPT hA h0 hT hR h htx;obtain⟨l,hyl⟩:∃l,yv = .func (.yield l) #[] #[]:=by obtain⟨l,h1,_⟩:=HY.out W (Below.refl _ _);exact⟨l,h1⟩
 subst hyl;have HYl:Hid (∀w',Below W.heap.size W w'→YieldAt Fence.wide 0 Tryz.prog l #[zSc (tx,weight)] w' R):=fun w' hb=>by
  obtain⟨l',h1,h2⟩:=HY.out w' hb;cases h1;exact h2 0
 clear HY;have hdd:∀k:Nat,(Fence.wide.depth.isSome=true→1≤k):=fun k h=>by simp[Fence.wide]at h
 refine(callsIn_wide (n:=1)).1 ?_;refine callsIn_of_wp Tryz.func166 rfl trivial ?_ rfl;simp only[Tryz.ntmps166,List.size_toArray,List.length_cons,List.length_nil,Nat.reduceAdd,Nat.reduceSub,Array.replicate_succ,Array.replicate_zero,List.push_toArray,List.append_toArray,List.nil_append,List.cons_append]
 gi_wp2_with (first
  |(refine⟨trivial,?_⟩;gi_at_call 153;refine(callsIn_wide.2 HTX.out).mono ?_;rintro e w1 ⟨rfl,hb1⟩;have c3':=HC3.out w1 hb1;obtain⟨fn,tmps,asg,bd,hyy,hRr⟩:=HYl.out w1 hb1;simp only[zSc]at hyy;clear hb1)
  |(refine hRr.mono ?_;clear hRr;intro e w2 he;obtain⟨b,rfl⟩:=HRB.out e w2 he))
 exact he
end
section
open Go.RowKit Nums Fm Pk
structure VS(w0:World)(B tb wb:Nat)(yv:Value)(I:CI)(A:Nat→Prop)(pre:List Pr)(W:World)(k:Nat)(pv:Value)(path:List Int):Prop where
 bel:Below w0.heap.size w0 W
 tr:TrAt B W tb wb k pv yv path
 nt:¬A tb
 np:∀g,pv.ownBlock=some g→¬A g∧g≠tb
 lies:Lies A W
 loA:∀j,A j→w0.heap.size≤j
 inv:I A pre W
variable {w0:World} {B tb wb:Nat} {yv:Value} {I:CI} {A A':Nat→Prop} {pre pre':List Pr} {W W':World} {k:Nat} {pv:Value} {path:List Int}
theorem VS.below(h:VS w0 B tb wb yv I A pre W k pv path)(hI:zF5 B I)(hb:Below W.heap.size W W'):VS w0 B tb wb yv I A pre W' k pv path:=
 ⟨h.bel.trans (hb.mono h.bel.size),h.tr.below hb,h.nt,h.np,fun j hj=>Nat.lt_of_lt_of_le (h.lies j hj) hb.size,h.loA,hI _ _ _ _ h.inv (Upd.of_below hb)⟩
theorem VS.cons(h:VS w0 B tb wb yv I A pre W k pv path)(he:Ext A A' W)(hl:Lies A' W')(hu:Upd A W W')(hi:I A' pre' W'):VS w0 B tb wb yv I A' pre' W' k pv path:=by
 have hlt:=h.tr.lt;refine⟨h.bel.trans (hu.below h.bel.size h.loA),h.tr.kept (hu.block tb hlt h.nt) (fun g hg=>hu.block g (GOwn.lt h.tr.row hg) (h.np g hg).1),fun ha=>(he.2 tb ha).elim h.nt (fun g=>by omega),fun g hg=>⟨fun ha=>(he.2 g ha).elim (h.np g hg).1 (fun h2=>by have:=GOwn.lt h.tr.row hg;omega),(h.np g hg).2⟩,hl,fun j hj=>(he.2 j hj).elim (h.loA j) (fun h2=>Nat.le_trans h.bel.size h2),hi⟩
theorem zBm(W:World)(tb o:Nat)(x:Value):Upd (fun j=>j=tb) W (W.setCell ⟨tb,o,none⟩ x):=by
 obtain⟨h1,h2,h3,h4⟩:=zBn W tb o x;exact⟨h1,h2,h3,by omega,fun k _ hk=>Below.heap_setCell W ⟨tb,o,none⟩ x k hk⟩
theorem VS.skip(h:VS w0 B tb wb yv I A pre W k pv path)(hB:w0.heap.size≤B)(hI:zF5 B I)(k2:Nat):VS w0 B tb wb yv I A pre (W.setCell ⟨tb,1,none⟩ (.int .i64 (k2:Int))) k2 pv path:=by
 have hu:=zBm W tb 1 (.int .i64 (k2:Int));have hlo:=h.tr.lo;refine⟨h.bel.trans (hu.below h.bel.size (fun j e=>by omega)),⟨hlo,by rw[zAx h.tr.blk];rfl,GOwn.same h.tr.row fun g hg=>hu.block g (GOwn.lt h.tr.row hg) (h.np g hg).2⟩,h.nt,h.np,fun j hj=>Nat.lt_of_lt_of_le (h.lies j hj) hu.size,h.loA,hI _ _ _ _ h.inv (hu.mono fun j e=>by subst e;exact⟨h.nt,hlo⟩)⟩
def NewP(W:World)(pv pv':Value):Prop:=pv'.ownBlock=pv.ownBlock∨∃g,pv'.ownBlock=some g∧W.heap.size≤g
theorem NewP.trans{W W':World}{a b c:Value}(h:NewP W a b)(h':NewP W' b c)(hs:W.heap.size≤W'.heap.size):NewP W a c:=by
 rcases h' with h'|⟨g,h1,h2⟩
 · rcases h with h|⟨g,h1,h2⟩
   · exact .inl (h'.trans h)
   · exact .inr ⟨g,h'.trans h1,h2⟩
 · exact .inr ⟨g,h1,Nat.le_trans hs h2⟩
theorem VS.push{V4:World}{pv':Value}{c:Int}(h:VS w0 B tb wb yv I A pre W k pv path)(hB:w0.heap.size≤B)(hI:zF5 B I)(hb4:Below W.heap.size W V4)(hg:V4.grownBy W' pv.ownBlock)(ho:COwn B W' pv' (path++[c]))(hob:pv'.ownBlock=pv.ownBlock∨∃g,pv'.ownBlock=some g∧V4.heap.size≤g):
 VS w0 B tb wb yv I A pre (W'.setCell ⟨tb,2,none⟩ pv') k pv' (path++[c])∧Upd (fun j=>j=tb∨pv.ownBlock=some j) W (W'.setCell ⟨tb,2,none⟩ pv')∧NewP W pv pv'∧W'.cell? ⟨tb,2,none⟩=some pv∧W'.frozen? ⟨tb,2,none⟩=false:=by
 have hlt:=h.tr.lt;have hlo:=h.tr.lo;have hlt4:tb<V4.heap.size:=Nat.lt_of_lt_of_le hlt hb4.size;have hu1:Upd (fun j=>pv.ownBlock=some j) W W':=(Upd.of_below hb4).trans (G:=fun j=>pv.ownBlock=some j) ⟨hg.os,hg.tape,hg.output,hg.size,fun j hj hn=>hg.block j hj (fun e=>hn e.symm)⟩ (fun _ _ g=>g);have hnp:pv.ownBlock≠some tb:=fun e=>(h.np tb e).2 rfl
 have hblk:W'.heap[tb]?=some (.cells #[.pointer (some ⟨wb,0,none⟩),.int .i64 (k:Int),pv,yv] 210):=(hu1.block tb hlt hnp).trans h.tr.blk;have hu2:=zBm W' tb 2 pv';have hu:Upd (fun j=>j=tb∨pv.ownBlock=some j) W (W'.setCell ⟨tb,2,none⟩ pv'):=(hu1.mono fun j e => .inr e).trans (hu2.mono fun j e => .inl e) (fun _ _ g=>g);have hnew:∀g,pv'.ownBlock=some g→¬A g∧g≠tb:=fun g hg'=>by
  rcases hob with e|⟨g2,e,h2⟩
  · exact h.np g (e▸hg')
  · rw[e]at hg'
    cases hg';exact⟨fun ha=>by have:=h.lies g ha;have:=hb4.size;omega,by omega⟩
 refine⟨⟨h.bel.trans (hu.below h.bel.size fun j hj=>?_),⟨hlo,by rw[zAx hblk];rfl,GOwn.same ho fun g hg'=>hu2.block g (GOwn.lt ho hg') (hnew g hg').2⟩,h.nt,hnew,fun j hj=>Nat.lt_of_lt_of_le (h.lies j hj) hu.size,h.loA,hI _ _ _ _ h.inv (hu.mono fun j hj=>?_)⟩,hu,?_,by simp[World.cell?,hblk],by simp[World.frozen?,hblk]⟩
 · rcases hj with e|e
   · omega
   · exact Nat.le_trans hB (GOwn.block h.tr.row e).1
 · rcases hj with e|e
   · subst e;exact⟨h.nt,hlo⟩
   · exact⟨(h.np j e).1,(GOwn.block h.tr.row e).1⟩
 · rcases hob with e|⟨g2,e,h2⟩
   · exact .inl e
   · exact .inr ⟨g2,e,Nat.le_trans hb4.size h2⟩
theorem VS.pop{c:Int}(h:VS w0 B tb wb yv I A pre W k pv (path++[c]))(hB:w0.heap.size≤B)(hI:zF5 B I):∃g cap,pv = .slice (some ⟨g,0,none⟩) (path.length+1) cap∧path.length+1≤cap ∧
 VS w0 B tb wb yv I A pre (W.setCell ⟨tb,2,none⟩ (.slice (some ⟨g,0,none⟩) path.length cap)) k (.slice (some ⟨g,0,none⟩) path.length cap) path:=by
 have hr:=h.tr.row;unfold COwn at hr;rw[List.map_append]at hr;obtain⟨g,cap,hv,hc,ho⟩:=GOwn.pop hr;rw[List.length_map]at hv hc ho;refine⟨g,cap,hv,hc,?_⟩;have hu:=zBm W tb 2 (.slice (some ⟨g,0,none⟩) path.length cap);have hlo:=h.tr.lo;have hgo:pv.ownBlock=some g:=by rw[hv];rfl
 refine⟨h.bel.trans (hu.below h.bel.size (fun j e=>by omega)),⟨hlo,by rw[zAx h.tr.blk];rfl,GOwn.same ho fun g' hg'=>?_⟩,h.nt,fun g' hg'=>?_,fun j hj=>Nat.lt_of_lt_of_le (h.lies j hj) hu.size,h.loA,hI _ _ _ _ h.inv (hu.mono fun j e=>by subst e;exact⟨h.nt,hlo⟩)⟩
 · cases hg'
   exact hu.block g (GOwn.lt ho rfl) (h.np g hgo).2
 · cases hg'
   exact h.np g hgo
def zNv(w0:World)(B tb wb:Nat)(yv:Value)(I X:CI)(A:Nat→Prop)(pre:List Pr)(W:World)(k:Nat)(pv:Value)(path:List Int)(L:List Pr)(e:Ending)(W':World):Prop:=
 (e = .returned (.bool true)∧∃A' pv',Ext A A' W∧Upd (fun j=>A j∨j=tb∨pv.ownBlock=some j) W W'∧VS w0 B tb wb yv I A' (pre++L.drop k) W' (k-L.length) pv' path∧NewP W pv pv') ∨
 (e = .returned (.bool false)∧∃q A',q<+:L.drop k∧Ext A A' W∧Lies A' W'∧Upd (fun j=>A j∨j=tb∨pv.ownBlock=some j) W W'∧X A' (pre++q) W')
def tw(path:List Int)(weight:Int)(R:List En):List Pr:=(ud path weight R).map prW
def tF(path:List Int)(weight:Int)(s:St):List Pr:=(udF path weight s).map prW
def tA(D:List (List En))(path:List Int)(weight:Int)(l:List Arc):List Pr:=(udA D path weight l).map prW
theorem zL8(D:List (List En))(s:St)(path:List Int)(weight:Int):tw path weight (exp D s)=tF path weight s++tA D path weight s.arcs:=by rw[tw,zPw,List.map_append];rfl
theorem zKo(D:List (List En))(path:List Int)(weight:Int){l:List Arc}{j:Nat}{a:Arc}(h:l[j]?=some a):tA D path weight (l.take (j+1))=tA D path weight (l.take j)++tw (path++[a.label]) (weight+a.out) (D[a.to]?.getD []):=by
 rw[List.take_add_one,h,tA];simp only[Option.toList_some];rw[udA_snoc,List.map_append];rfl
theorem tw_len(path:List Int)(weight:Int)(R:List En):(tw path weight R).length=R.length:=by rw[tw,List.length_map,zHn]
theorem zWq{X Y:List Pr}{k:Nat}(h:Y.length≤k-X.length):(X++Y).drop k=X.drop k:=by
 rw[List.drop_append,List.drop_eq_nil_of_le h,List.append_nil]
theorem zQf{X Y Z q:List Pr}{k:Nat}(hq:q<+:Y.drop (k-X.length)):X.drop k++q<+:(X++Y++Z).drop k:=by
 obtain⟨t,ht⟩:=hq;rw[List.append_assoc,List.drop_append,List.drop_append,←ht];exact⟨t++Z.drop (k-X.length-Y.length),by simp[List.append_assoc]⟩
theorem zPy(D:List (List En))(path:List Int)(weight:Int)(l:List Arc)(i:Nat):tA D path weight l=tA D path weight (l.take i)++tA D path weight (l.drop i):=by
 conv=>lhs;rw[←List.take_append_drop i l]
 unfold tA udA;rw[List.flatMap_append,List.map_append]
theorem wrap_pl{pl:Nat}(h:pl<24):IntKind.i64.wrap (pl:Int)=(pl:Int):=by
 first|exact wrap_small _ (by omega) (by omega)|(rw[IntKind.wrap_i64];exact IntWalk.wrap64_in _ (by omega))|(rw[IntKind.wrap_i64];unfold wrap64;omega)
structure VL(w0:World)(B tb wb:Nat)(yv:Value)(I:CI)(A:Nat→Prop)(pre:List Pr)(Ws:World)(k:Nat)(pv:Value)(path:List Int)(L:List Pr)(A1:Nat→Prop)(pv1:Value)(wr:World):Prop where
 ext:Ext A A1 Ws
 upd:Upd (fun j=>A j∨j=tb∨pv.ownBlock=some j) Ws wr
 new:NewP Ws pv pv1
 vs:VS w0 B tb wb yv I A1 (pre++L.drop k) wr (k-L.length) pv1 path
variable {Ws wr W7 W8 W9:World} {L Y:List Pr} {A1 A2:Nat→Prop} {pv1 pv2 pv3:Value} {X:CI}
theorem VL.skip(h:VL w0 B tb wb yv I A pre Ws k pv path L A1 pv1 wr)(hB:w0.heap.size≤B)(hI:zF5 B I)(hb7:Below wr.heap.size wr W7)(hy:Y.length≤k-L.length):VL w0 B tb wb yv I A pre Ws k pv path (L++Y) A1 pv1 (W7.setCell ⟨tb,1,none⟩ (.int .i64 ((k-L.length-Y.length:Nat):Int))):=by
 have hv:=(h.vs.below hI hb7).skip hB hI (k-L.length-Y.length);have e:k-(L++Y).length=k-L.length-Y.length:=by rw[List.length_append];omega
 refine⟨h.ext,(h.upd.trans (G:=fun j=>A j∨j=tb∨pv.ownBlock=some j) (Upd.of_below hb7) (fun _ _ g=>g)).trans (G:=fun j=>j=tb) (zBm _ _ _ _) (fun _ _ g => .inr (.inl g)),h.new,?_⟩;rw[zWq hy,e];exact hv
theorem VL.deep{c:Int}(h:VL w0 B tb wb yv I A pre Ws k pv path L A1 pv1 wr)(hB:w0.heap.size≤B)(hI:zF5 B I)(hb7:Below wr.heap.size wr W7)(hu8:Upd (fun j=>j=tb∨pv1.ownBlock=some j) W7 W8)(hn8:NewP W7 pv1 pv2)(he9:Ext A1 A2 W8)(hu9:Upd (fun j=>A1 j∨j=tb∨pv2.ownBlock=some j) W8 W9)(hn9:NewP W8 pv2 pv3)
 (hv9:VS w0 B tb wb yv I A2 (pre++L.drop k++Y.drop (k-L.length)) W9 (k-L.length-Y.length) pv3 (path++[c])):∃g cap,pv3 = .slice (some ⟨g,0,none⟩) (path.length+1) cap∧path.length+1≤cap∧VL w0 B tb wb yv I A pre Ws k pv path (L++Y) A2 (.slice (some ⟨g,0,none⟩) path.length cap) (W9.drew.setCell ⟨tb,2,none⟩ (.slice (some ⟨g,0,none⟩) path.length cap)):=by
 have hbd:Below W9.heap.size W9 W9.drew:=(Below.refl _ W9).drew;obtain⟨g,cap,hv,hc,hvp⟩:=(hv9.below hI hbd).pop hB hI;refine⟨g,cap,hv,hc,?_⟩;have hs7:Ws.heap.size≤W7.heap.size:=Nat.le_trans h.upd.size hb7.size;have hs8:Ws.heap.size≤W8.heap.size:=Nat.le_trans hs7 hu8.size;have n1:NewP Ws pv pv2:=h.new.trans hn8 hs7;have n2:NewP Ws pv pv3:=n1.trans hn9 hs8;have e:k-(L++Y).length=k-L.length-Y.length:=by rw[List.length_append];omega
 have hp:∀{q:Value},NewP Ws pv q→∀j,j<Ws.heap.size→q.ownBlock=some j→pv.ownBlock=some j:=fun hn j hj hq=>by
  rcases hn with h1|⟨g,h1,h2⟩
  · exact h1▸hq
  · rw[h1]at hq;cases hq;omega
 refine⟨h.ext.trans he9 hs8,?_,?_,?_⟩
 · refine(((h.upd.trans (G:=fun j=>A j∨j=tb∨pv.ownBlock=some j) (Upd.of_below hb7) (fun _ _ g=>g)).trans hu8 (fun j hj g=>?_)).trans hu9 (fun j hj g=>?_)).trans (G:=fun j=>j=tb) ((Upd.of_below (F:=fun j=>j=tb) hbd).trans (zBm _ _ _ _) (fun _ _ g=>g)) (fun _ _ g => .inr (.inl g))
   · rcases g with g|g
     · exact .inr (.inl g)
     · exact .inr (.inr (hp h.new j hj g))
   · rcases g with g|g|g
     · exact(h.ext.2 j g).elim .inl (fun h2=>by omega)
     · exact .inr (.inl g)
     · exact .inr (.inr (hp n1 j hj g))
 · have:(Value.slice (some ⟨g,0,none⟩) path.length cap).ownBlock=pv3.ownBlock:=by rw[hv];rfl
   rcases n2 with h1|⟨g2,h1,h2⟩
   · exact .inl (this.trans h1)
   · exact .inr ⟨g2,this.trans h1,h2⟩
 · rw[List.drop_append,e,←List.append_assoc]
   exact hvp
theorem VL.stop(h:VL w0 B tb wb yv I A pre Ws k pv path L A1 pv1 wr)(hs:Below W.heap.size W Ws)(hb7:Below wr.heap.size wr W7)(hu8:Upd (fun j=>j=tb∨pv1.ownBlock=some j) W7 W8)(hn8:NewP W7 pv1 pv2)(he9:Ext A1 A2 W8)(hu9:Upd (fun j=>A1 j∨j=tb∨pv2.ownBlock=some j) W8 W9):Ext A A2 W∧Upd (fun j=>A j∨j=tb∨pv.ownBlock=some j) W W9:=by
 have hs7:Ws.heap.size≤W7.heap.size:=Nat.le_trans h.upd.size hb7.size;have hs8:Ws.heap.size≤W8.heap.size:=Nat.le_trans hs7 hu8.size;have n1:NewP Ws pv pv2:=h.new.trans hn8 hs7;have hp:∀{q:Value},NewP Ws pv q→∀j,j<Ws.heap.size→q.ownBlock=some j→pv.ownBlock=some j:=fun hn j hj hq=>by
  rcases hn with h1|⟨g,h1,h2⟩
  · exact h1▸hq
  · rw[h1]at hq;cases hq;omega
 have he:=h.ext.trans he9 hs8;refine⟨⟨he.1,fun j hj=>(he.2 j hj).imp id (fun g=>Nat.le_trans hs.size g)⟩,?_⟩;refine(Upd.of_below hs).trans (((h.upd.trans (G:=fun j=>A j∨j=tb∨pv.ownBlock=some j) (Upd.of_below hb7) (fun _ _ g=>g)).trans hu8 (fun j hj g=>?_)).trans hu9 (fun j hj g=>?_)) (fun _ _ g=>g)
 · rcases g with g|g
   · exact .inr (.inl g)
   · exact .inr (.inr (hp h.new j hj g))
 · rcases g with g|g|g
   · exact(h.ext.2 j g).elim .inl (fun h2=>by omega)
   · exact .inr (.inl g)
   · exact .inr (.inr (hp n1 j hj g))
theorem VL.out(h:VL w0 B tb wb yv I A pre Ws k pv path L A1 pv1 wr)(hs:Below W.heap.size W Ws):zNv w0 B tb wb yv I X A pre W k pv path L (.returned (.bool true)) wr:=by
 refine .inl ⟨rfl,A1,pv1,⟨h.ext.1,fun j hj=>(h.ext.2 j hj).imp id (fun g=>Nat.le_trans hs.size g)⟩,(Upd.of_below hs).trans h.upd (fun _ _ g=>g),h.vs,?_⟩;rcases h.new with h1|⟨g,h1,h2⟩
 · exact .inl h1
 · exact .inr ⟨g,h1,Nat.le_trans hs.size h2⟩
end
