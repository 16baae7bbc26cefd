import Derived.Test.YtobjpljdgieklaaGreatDoorJ27
import Derived.Test.YtobjpljdgieklaaGreatDoorJ26
import Derived.Test.YtobjpljdgieklaaGreatDoorJ16
import Derived.Test.YtobjpljdgieklaaGreatDoorJ17
import Derived.Test.YtobjpljdgieklaaGreatDoorJ11
import Derived.TacticsInMore
import Derived.OwnWalkIn
import Derived.Shelf.Lay
import Derived.Shelf.SlicesE.Clone
import Derived.Shelf.SlSortCmp.WholeK
import Derived.Ground.SlgnProg
import Derived.Ground.SlsfProg
set_option maxRecDepth 100000
namespace Go.Proofs.YtobjpljdgieklaaGreatDoor
section
open Go.RowKit Nums Fm Pk
def zDz(c:Nat):List Value:=[.int .i64 (c:Int)]
theorem rtyN:RTy 3 118 1 8:=⟨by kernel_rfl,⟨.int .i64 0,by kernel_rfl,rfl⟩,by decide,by decide⟩
structure WkAt(E:Nat)(w:World)(wb:Nat)(base:Int)(m:List RSt)(cs:List Nat):Prop where
 lt:wb<E
 ex:∃vs vw,w.heap[wb]?=some (.cells #[.int .i64 base,vs,vw] 121)∧StsAt E w vs m∧GRow E 1 w vw (cs.map zDz)
theorem WkAt.below{E:Nat}{w w':World}{wb:Nat}{base:Int}{m:List RSt}{cs:List Nat}(h:WkAt E w wb base m cs)(hb:Below E w w'):WkAt E w' wb base m cs:=by
 obtain⟨vs,vw,h1,h2,h3⟩:=h.ex;exact⟨h.lt,vs,vw,(hb.block wb h.lt).trans h1,h2.below hb,h3.below hb⟩
theorem WkAt.facts{E:Nat}{w:World}{wb:Nat}{base:Int}{m:List RSt}{cs:List Nat}(h:WkAt E w wb base m cs):∃sd sc wd wc,w.cell? ⟨wb,0,none⟩=some (.int .i64 base)∧w.cell? ⟨wb,1,none⟩=some (.slice sd m.length sc)∧w.cell? ⟨wb,2,none⟩=some (.slice wd cs.length wc)∧StsAt E w (.slice sd m.length sc) m∧GRow E 1 w (.slice wd cs.length wc) (cs.map zDz):=by
 obtain⟨vs,vw,h1,h2,h3⟩:=h.ex;obtain⟨sd,sc,rfl⟩:=h2.shape;obtain⟨wd,wc,rfl⟩:=h3.shape;rw[List.length_map]at h1 h3;exact⟨sd,sc,wd,wc,by simp[World.cell?,h1],by simp[World.cell?,h1],by simp[World.cell?,h1],h2,h3⟩
theorem GRow.num{E:Nat}{w:World}{ad:Option Addr}{n cap:Nat}{cs:List Nat}(h:GRow E 1 w (.slice ad n cap) (cs.map zDz)){k c:Nat}(hc:cs[k]?=some c):∃g off,ad=some ⟨g,off,none⟩∧g<E∧w.cell? ⟨g,off+k,none⟩=some (.int .i64 (c:Int)):=by
 obtain⟨ad',cap',hv,hx⟩:=h.ex;simp only[Value.slice.injEq]at hv;have hk:=(List.getElem?_eq_some_iff.1 hc).1;obtain⟨g,off,rfl,hg,hx⟩:=hx (by rw[List.length_map];omega);have e:(cs.map zDz)[k]?=some (zDz c):=by rw[List.getElem?_map,hc];rfl
 have:=hx k 0 _ _ e rfl;rw[Nat.mul_one,Nat.add_zero]at this;exact⟨g,off,hv.1,hg,this⟩
set_option maxHeartbeats 1000000 in
theorem zHp(E:Nat)(w:World)(wb:Nat)(base:Int)(m:List RSt)(cs:List Nat)(h:WkAt E w wb base m cs):
 Calls Tryz.prog 70 #[.pointer (some ⟨wb,0,none⟩)] w fun e w'=>e = .returned (.int .i64 ((m.length:Int)-1))∧w'=w:=by
 obtain⟨sd,sc,wd,wc,c0,c1,c2,hS,_⟩:=h.facts;have hl:=hS.len;go_enter Tryz.func70,Tryz.ntmps70;go_wp2;go_ret;exact⟨by go_num,rfl⟩
set_option maxHeartbeats 1000000 in
theorem Base_any(E:Nat)(w:World)(wb:Nat)(base:Int)(m:List RSt)(cs:List Nat)(h:WkAt E w wb base m cs):
 Calls Tryz.prog 75 #[.pointer (some ⟨wb,0,none⟩)] w fun e w'=>e = .returned (.int .i64 base)∧w'=w:=by
 obtain⟨sd,sc,wd,wc,c0,c1,c2,hS,_⟩:=h.facts;go_enter Tryz.func75,Tryz.ntmps75;go_wp2;go_ret;exact⟨rfl,rfl⟩
end
section
open Go.RowKit Nums Fm Pk
attribute [local go_sem] Oper.semAt_some
def zJ6(c:Int):List Value:=[.int .i32 c]
theorem zXs(c:Int):zG7 1 (zJ6 c):=⟨rfl,by simp[zJ6,Value.oneCell']⟩
theorem rtyC:RTy 21 122 1 4:=⟨by kernel_rfl,⟨.int .i32 0,by kernel_rfl,rfl⟩,by decide,by decide⟩
abbrev COwn(B:Nat)(w:World)(v:Value)(l:List Int):Prop:=GOwn 21 1 B w v (l.map zJ6)
theorem COwn.row{B:Nat}{w:World}{v:Value}{l:List Int}(h:COwn B w v l):Row w v l:=by
 obtain⟨ad,cap,hv,_⟩:=GOwn.shape h;rw[List.length_map]at hv;refine⟨ad,cap,hv,fun h0=>?_⟩;obtain⟨g,c2,hv2,hg,_,_,hc⟩:=GOwn.cell h (by rw[List.length_map];exact h0);rw[hv]at hv2;simp only[Value.slice.injEq]at hv2;refine⟨g,0,hv2.1,fun i hi=>?_⟩;have e:(l.map zJ6)[i]?=some (zJ6 (l.getD i 0)):=by
  rw[List.getElem?_map,List.getElem?_eq_getElem hi,List.getD_eq_getElem?_getD,List.getElem?_eq_getElem hi];rfl
 have:=hc i 0 _ _ e rfl;rw[Nat.mul_one,Nat.add_zero]at this;rw[Nat.zero_add];exact this
theorem GOwn.pop{T:TypeId}{k B:Nat}{w:World}{v:Value}{xss:List (List Value)}{x:List Value}(h:GOwn T k B w v (xss++[x])):∃g cap,v = .slice (some ⟨g,0,none⟩) (xss.length+1) cap∧xss.length+1≤cap∧GOwn T k B w (.slice (some ⟨g,0,none⟩) xss.length cap) xss:=by
 obtain⟨hc,hl,⟨e,h0⟩|⟨g,cap,cur,hv,h1,hh,h3,h4,h5,h6⟩⟩:=h
 · simp at h0
 · rw[List.length_append,List.length_singleton]at hv h3 hl h6
   (have hk:∀y∈xss,y.length=k:=fun y hy=>(hc y (List.mem_append.2 (.inl hy))).1);have hfl:xss.flatten.length=xss.length*k:=by
    clear h6 hl hv h3 hc
    induction xss with
    |nil=>simp
    |cons y r ih=>rw[List.flatten_cons,List.length_append,hk y (by simp),ih (fun z hz=>hk z (by simp[hz])),List.length_cons,Nat.add_mul];omega
   refine⟨g,cap,hv,h3,fun y hy=>hc y (List.mem_append.2 (.inl hy)),hfl,.inr ⟨g,cap,cur,rfl,h1,hh,by omega,h4,h5,?_⟩⟩;have h7:=congrArg (List.take (xss.length*k)) h6;rw[List.take_take,List.flatten_append,←hfl,List.take_left]at h7;rw[←h7,hfl];congr 1;have:xss.length*k≤(xss.length+1)*k:=Nat.mul_le_mul_right _ (by omega);omega
structure TrAt(B:Nat)(W:World)(tb wb k:Nat)(pv yv:Value)(path:List Int):Prop where
 lo:B≤tb
 blk:W.heap[tb]?=some (.cells #[.pointer (some ⟨wb,0,none⟩),.int .i64 (k:Int),pv,yv] 210)
 row:COwn B W pv path
theorem TrAt.lt{B:Nat}{W:World}{tb wb k:Nat}{pv yv:Value}{path:List Int}(h:TrAt B W tb wb k pv yv path):tb<W.heap.size:=(Array.getElem?_eq_some_iff.1 h.blk).1
theorem TrAt.facts{B:Nat}{W:World}{tb wb k:Nat}{pv yv:Value}{path:List Int}(h:TrAt B W tb wb k pv yv path):W.cell? ⟨tb,0,none⟩=some (.pointer (some ⟨wb,0,none⟩))∧W.cell? ⟨tb,1,none⟩=some (.int .i64 (k:Int))∧W.cell? ⟨tb,2,none⟩=some pv∧W.cell? ⟨tb,3,none⟩=some yv∧∀o,W.frozen? ⟨tb,o,none⟩=false:=
 ⟨by simp[World.cell?,h.blk],by simp[World.cell?,h.blk],by simp[World.cell?,h.blk],by simp[World.cell?,h.blk],fun o=>by simp[World.frozen?,h.blk]⟩
theorem TrAt.kept{B:Nat}{W W':World}{tb wb k:Nat}{pv yv:Value}{path:List Int}(h:TrAt B W tb wb k pv yv path)(e1:W'.heap[tb]?=W.heap[tb]?)(e2:∀g,pv.ownBlock=some g→W'.heap[g]?=W.heap[g]?):TrAt B W' tb wb k pv yv path:=
 ⟨h.lo,e1.trans h.blk,GOwn.same h.row e2⟩
theorem TrAt.below{B:Nat}{W W':World}{tb wb k:Nat}{pv yv:Value}{path:List Int}(h:TrAt B W tb wb k pv yv path)(hb:Below W.heap.size W W'):TrAt B W' tb wb k pv yv path:=
 h.kept (hb.block tb h.lt) (fun g hg=>hb.block g (GOwn.lt h.row hg))
theorem zT1(B:Nat)(W:World)(tb wb k:Nat)(pv yv:Value)(path:List Int)(weight:Int)(h:TrAt B W tb wb (k+1) pv yv path)(hk:k+1≤9223372036854775807):
 Calls Tryz.prog 166 #[.pointer (some ⟨tb,0,none⟩),.int .i64 weight] W fun e W'=>e = .returned (.bool true)∧W'=W.setCell ⟨tb,1,none⟩ (.int .i64 (k:Int)):=by
 obtain⟨c0,c1,c2,c3,fz⟩:=h.facts;have fz1:=fz 1;have hz:(0:Int)<((k+1:Nat):Int):=by omega
 have hz2:((k+1:Nat):Int)-1=(k:Int):=by omega
 clear h;go_enter Tryz.func166,Tryz.ntmps166;go_wp2;go_ret;exact⟨rfl,rfl⟩
theorem tell_now(B:Nat)(W:World)(tb wb:Nat)(pv yv:Value)(path:List Int)(weight:Int)(h:TrAt B W tb wb 0 pv yv path)(hT:Tabs W)(hp:path.length≤24)(I X:CI)(A:Nat→Prop)(pre:List Pr)(hI:zGa B I)(T:List Pr)(hY:zX9 T yv I X)(hPT:pre++[(zAv path,weight)]<+:T)(hA:Lies A W)(h0:I A pre W):
 Calls Tryz.prog 166 #[.pointer (some ⟨tb,0,none⟩),.int .i64 weight] W (zYa I X A pre (zAv path,weight) W):=by
 obtain⟨c0,c1,c2,c3,fz⟩:=h.facts;have HTX:Hid (Calls Tryz.prog 153 #[pv] W fun e w'=>e = .returned (.tuple #[.string (zAv path),.bool (allR path)])∧Below W.heap.size W w'):=zLu pv path W hT h.row.row (by omega);have HTR:Hid (TrAt B W tb wb 0 pv yv path):=h;have HC3:Hid (∀w',Below W.heap.size W w'→w'.cell? ⟨tb,3,none⟩=some yv):=fun w' hb=>(HTR.out.below hb).facts.2.2.2.1
 have HY:Hid (∀w',Below W.heap.size W w'→YC yv (zAv path,weight) w' (zYa I X A pre (zAv path,weight) W)):=fun w' hb=>by
  refine(hY A pre (zAv path,weight) w' hPT (hI _ _ _ _ h0 (Upd.of_below hb)) (fun k hk=>Nat.lt_of_lt_of_le (hA k hk) hb.size)).mono ?_;rintro e w2 (⟨rfl,A',h1,h2,h3,h4⟩|⟨rfl,A',h1,h2,h3,h4⟩)
  · exact .inl ⟨rfl,A',⟨h1.1,fun k hk=>(h1.2 k hk).imp id (fun g=>Nat.le_trans hb.size g)⟩,h2,(Upd.of_below hb).trans h3 (fun _ _ h=>h),h4⟩
  · exact .inr ⟨rfl,A',⟨h1.1,fun k hk=>(h1.2 k hk).imp id (fun g=>Nat.le_trans hb.size g)⟩,h2,(Upd.of_below hb).trans h3 (fun _ _ h=>h),h4⟩
 obtain⟨R,hR⟩:∃R,zYa I X A pre (zAv path,weight) W=R:=⟨_,rfl⟩;rw[hR]at HY ⊢;have HRB:Hid (∀e w',R e w'→∃b,e = .returned (.bool b)):=fun e w' he=>by
  rw[←hR]at he;rcases he with⟨rfl,_⟩|⟨rfl,_⟩
  · exact⟨_,rfl⟩
  · exact⟨_,rfl⟩
 obtain⟨tx,htx⟩:∃tx,zAv path=tx:=⟨_,rfl⟩;rw[htx]at HY HTX;clear hI hY hPT hA h0 hT hR h htx;obtain⟨l,hyl⟩:∃l,yv = .func (.yield l) #[] #[]:=by obtain⟨l,h1,_⟩:=HY.out W (Below.refl _ _);exact⟨l,h1⟩
 subst hyl;have HYl:Hid (∀w',Below W.heap.size W w'→YieldAt Fence.wide 0 Tryz.prog l #[zSk (tx,weight)] w' R):=fun w' hb=>by
  obtain⟨l',h1,h2⟩:=HY.out w' hb;cases h1;exact h2 0
 clear HY;have hdd:∀k:Nat,(Fence.wide.depth.isSome=true→1≤k):=fun k h=>by simp[Fence.wide]at h
 refine(callsIn_wide (n:=1)).1 ?_;refine callsIn_of_wp Tryz.func166 rfl trivial ?_ rfl;simp only[Tryz.ntmps166,List.size_toArray,List.length_cons,List.length_nil,Nat.reduceAdd,Nat.reduceSub,Array.replicate_succ,Array.replicate_zero,List.push_toArray,List.append_toArray,List.nil_append,List.cons_append]
 gi_wp2_with (first
  |(refine⟨trivial,?_⟩;gi_at_call 153;refine(callsIn_wide.2 HTX.out).mono ?_;rintro e w1 ⟨rfl,hb1⟩;have c3':=HC3.out w1 hb1;obtain⟨fn,tmps,asg,bd,hyy,hRr⟩:=HYl.out w1 hb1;simp only[zSk]at hyy;clear hb1)
  |(refine hRr.mono ?_;clear hRr;intro e w2 he;obtain⟨b,rfl⟩:=HRB.out e w2 he))
 exact he
end
section
open Go.RowKit Nums Fm Pk
structure VS(w0:World)(B tb wb:Nat)(yv:Value)(I:CI)(A:Nat→Prop)(pre:List Pr)(W:World)(k:Nat)(pv:Value)(path:List Int):Prop where
 bel:Below w0.heap.size w0 W
 tr:TrAt B W tb wb k pv yv path
 nt:¬A tb
 np:∀g,pv.ownBlock=some g→¬A g∧g≠tb
 lies:Lies A W
 loA:∀j,A j→w0.heap.size≤j
 inv:I A pre W
variable {w0:World} {B tb wb:Nat} {yv:Value} {I:CI} {A A':Nat→Prop} {pre pre':List Pr} {W W':World} {k:Nat} {pv:Value} {path:List Int}
theorem VS.below(h:VS w0 B tb wb yv I A pre W k pv path)(hI:zGa B I)(hb:Below W.heap.size W W'):VS w0 B tb wb yv I A pre W' k pv path:=
 ⟨h.bel.trans (hb.mono h.bel.size),h.tr.below hb,h.nt,h.np,fun j hj=>Nat.lt_of_lt_of_le (h.lies j hj) hb.size,h.loA,hI _ _ _ _ h.inv (Upd.of_below hb)⟩
theorem VS.cons(h:VS w0 B tb wb yv I A pre W k pv path)(he:Ext A A' W)(hl:Lies A' W')(hu:Upd A W W')(hi:I A' pre' W'):VS w0 B tb wb yv I A' pre' W' k pv path:=by
 have hlt:=h.tr.lt;refine⟨h.bel.trans (hu.below h.bel.size h.loA),h.tr.kept (hu.block tb hlt h.nt) (fun g hg=>hu.block g (GOwn.lt h.tr.row hg) (h.np g hg).1),fun ha=>(he.2 tb ha).elim h.nt (fun g=>by omega),fun g hg=>⟨fun ha=>(he.2 g ha).elim (h.np g hg).1 (fun h2=>by have:=GOwn.lt h.tr.row hg;omega),(h.np g hg).2⟩,hl,fun j hj=>(he.2 j hj).elim (h.loA j) (fun h2=>Nat.le_trans h.bel.size h2),hi⟩
theorem zBi(W:World)(tb o:Nat)(x:Value):Upd (fun j=>j=tb) W (W.setCell ⟨tb,o,none⟩ x):=by
 obtain⟨h1,h2,h3,h4⟩:=zBp W tb o x;exact⟨h1,h2,h3,by omega,fun k _ hk=>Below.heap_setCell W ⟨tb,o,none⟩ x k hk⟩
theorem VS.skip(h:VS w0 B tb wb yv I A pre W k pv path)(hB:w0.heap.size≤B)(hI:zGa B I)(k2:Nat):VS w0 B tb wb yv I A pre (W.setCell ⟨tb,1,none⟩ (.int .i64 (k2:Int))) k2 pv path:=by
 have hu:=zBi W tb 1 (.int .i64 (k2:Int));have hlo:=h.tr.lo;refine⟨h.bel.trans (hu.below h.bel.size (fun j e=>by omega)),⟨hlo,by rw[zAx h.tr.blk];rfl,GOwn.same h.tr.row fun g hg=>hu.block g (GOwn.lt h.tr.row hg) (h.np g hg).2⟩,h.nt,h.np,fun j hj=>Nat.lt_of_lt_of_le (h.lies j hj) hu.size,h.loA,hI _ _ _ _ h.inv (hu.mono fun j e=>by subst e;exact⟨h.nt,hlo⟩)⟩
def NewP(W:World)(pv pv':Value):Prop:=pv'.ownBlock=pv.ownBlock∨∃g,pv'.ownBlock=some g∧W.heap.size≤g
theorem NewP.trans{W W':World}{a b c:Value}(h:NewP W a b)(h':NewP W' b c)(hs:W.heap.size≤W'.heap.size):NewP W a c:=by
 rcases h' with h'|⟨g,h1,h2⟩
 · rcases h with h|⟨g,h1,h2⟩
   · exact .inl (h'.trans h)
   · exact .inr ⟨g,h'.trans h1,h2⟩
 · exact .inr ⟨g,h1,Nat.le_trans hs h2⟩
theorem VS.push{V4:World}{pv':Value}{c:Int}(h:VS w0 B tb wb yv I A pre W k pv path)(hB:w0.heap.size≤B)(hI:zGa B I)(hb4:Below W.heap.size W V4)(hg:V4.grownBy W' pv.ownBlock)(ho:COwn B W' pv' (path++[c]))(hob:pv'.ownBlock=pv.ownBlock∨∃g,pv'.ownBlock=some g∧V4.heap.size≤g):
 VS w0 B tb wb yv I A pre (W'.setCell ⟨tb,2,none⟩ pv') k pv' (path++[c])∧Upd (fun j=>j=tb∨pv.ownBlock=some j) W (W'.setCell ⟨tb,2,none⟩ pv')∧NewP W pv pv'∧W'.cell? ⟨tb,2,none⟩=some pv∧W'.frozen? ⟨tb,2,none⟩=false:=by
 have hlt:=h.tr.lt;have hlo:=h.tr.lo;have hlt4:tb<V4.heap.size:=Nat.lt_of_lt_of_le hlt hb4.size;have hu1:Upd (fun j=>pv.ownBlock=some j) W W':=(Upd.of_below hb4).trans (G:=fun j=>pv.ownBlock=some j) ⟨hg.os,hg.tape,hg.output,hg.size,fun j hj hn=>hg.block j hj (fun e=>hn e.symm)⟩ (fun _ _ g=>g);have hnp:pv.ownBlock≠some tb:=fun e=>(h.np tb e).2 rfl
 have hblk:W'.heap[tb]?=some (.cells #[.pointer (some ⟨wb,0,none⟩),.int .i64 (k:Int),pv,yv] 210):=(hu1.block tb hlt hnp).trans h.tr.blk;have hu2:=zBi W' tb 2 pv';have hu:Upd (fun j=>j=tb∨pv.ownBlock=some j) W (W'.setCell ⟨tb,2,none⟩ pv'):=(hu1.mono fun j e => .inr e).trans (hu2.mono fun j e => .inl e) (fun _ _ g=>g);have hnew:∀g,pv'.ownBlock=some g→¬A g∧g≠tb:=fun g hg'=>by
  rcases hob with e|⟨g2,e,h2⟩
  · exact h.np g (e▸hg')
  · rw[e]at hg'
    cases hg';exact⟨fun ha=>by have:=h.lies g ha;have:=hb4.size;omega,by omega⟩
 refine⟨⟨h.bel.trans (hu.below h.bel.size fun j hj=>?_),⟨hlo,by rw[zAx hblk];rfl,GOwn.same ho fun g hg'=>hu2.block g (GOwn.lt ho hg') (hnew g hg').2⟩,h.nt,hnew,fun j hj=>Nat.lt_of_lt_of_le (h.lies j hj) hu.size,h.loA,hI _ _ _ _ h.inv (hu.mono fun j hj=>?_)⟩,hu,?_,by simp[World.cell?,hblk],by simp[World.frozen?,hblk]⟩
 · rcases hj with e|e
   · omega
   · exact Nat.le_trans hB (GOwn.block h.tr.row e).1
 · rcases hj with e|e
   · subst e;exact⟨h.nt,hlo⟩
   · exact⟨(h.np j e).1,(GOwn.block h.tr.row e).1⟩
 · rcases hob with e|⟨g2,e,h2⟩
   · exact .inl e
   · exact .inr ⟨g2,e,Nat.le_trans hb4.size h2⟩
theorem VS.pop{c:Int}(h:VS w0 B tb wb yv I A pre W k pv (path++[c]))(hB:w0.heap.size≤B)(hI:zGa B I):∃g cap,pv = .slice (some ⟨g,0,none⟩) (path.length+1) cap∧path.length+1≤cap ∧
 VS w0 B tb wb yv I A pre (W.setCell ⟨tb,2,none⟩ (.slice (some ⟨g,0,none⟩) path.length cap)) k (.slice (some ⟨g,0,none⟩) path.length cap) path:=by
 have hr:=h.tr.row;unfold COwn at hr;rw[List.map_append]at hr;obtain⟨g,cap,hv,hc,ho⟩:=GOwn.pop hr;rw[List.length_map]at hv hc ho;refine⟨g,cap,hv,hc,?_⟩;have hu:=zBi W tb 2 (.slice (some ⟨g,0,none⟩) path.length cap);have hlo:=h.tr.lo;have hgo:pv.ownBlock=some g:=by rw[hv];rfl
 refine⟨h.bel.trans (hu.below h.bel.size (fun j e=>by omega)),⟨hlo,by rw[zAx h.tr.blk];rfl,GOwn.same ho fun g' hg'=>?_⟩,h.nt,fun g' hg'=>?_,fun j hj=>Nat.lt_of_lt_of_le (h.lies j hj) hu.size,h.loA,hI _ _ _ _ h.inv (hu.mono fun j e=>by subst e;exact⟨h.nt,hlo⟩)⟩
 · cases hg'
   exact hu.block g (GOwn.lt ho rfl) (h.np g hgo).2
 · cases hg'
   exact h.np g hgo
def zNy(w0:World)(B tb wb:Nat)(yv:Value)(I X:CI)(A:Nat→Prop)(pre:List Pr)(W:World)(k:Nat)(pv:Value)(path:List Int)(L:List Pr)(e:Ending)(W':World):Prop:=
 (e = .returned (.bool true)∧∃A' pv',Ext A A' W∧Upd (fun j=>A j∨j=tb∨pv.ownBlock=some j) W W'∧VS w0 B tb wb yv I A' (pre++L.drop k) W' (k-L.length) pv' path∧NewP W pv pv') ∨
 (e = .returned (.bool false)∧∃q A',q<+:L.drop k∧Ext A A' W∧Lies A' W'∧Upd (fun j=>A j∨j=tb∨pv.ownBlock=some j) W W'∧X A' (pre++q) W')
def tw(path:List Int)(weight:Int)(R:List En):List Pr:=(ud path weight R).map prW
def tF(path:List Int)(weight:Int)(s:St):List Pr:=(udF path weight s).map prW
def tA(D:List (List En))(path:List Int)(weight:Int)(l:List Arc):List Pr:=(udA D path weight l).map prW
theorem zL5(D:List (List En))(s:St)(path:List Int)(weight:Int):tw path weight (exp D s)=tF path weight s++tA D path weight s.arcs:=by rw[tw,zP0,List.map_append];rfl
theorem zKk(D:List (List En))(path:List Int)(weight:Int){l:List Arc}{j:Nat}{a:Arc}(h:l[j]?=some a):tA D path weight (l.take (j+1))=tA D path weight (l.take j)++tw (path++[a.label]) (weight+a.out) (D[a.to]?.getD []):=by
 rw[List.take_add_one,h,tA];simp only[Option.toList_some];rw[udA_snoc,List.map_append];rfl
theorem tw_len(path:List Int)(weight:Int)(R:List En):(tw path weight R).length=R.length:=by rw[tw,List.length_map,zHt]
theorem zW4{X Y:List Pr}{k:Nat}(h:Y.length≤k-X.length):(X++Y).drop k=X.drop k:=by
 rw[List.drop_append,List.drop_eq_nil_of_le h,List.append_nil]
theorem zQl{X Y Z q:List Pr}{k:Nat}(hq:q<+:Y.drop (k-X.length)):X.drop k++q<+:(X++Y++Z).drop k:=by
 obtain⟨t,ht⟩:=hq;rw[List.append_assoc,List.drop_append,List.drop_append,←ht];exact⟨t++Z.drop (k-X.length-Y.length),by simp[List.append_assoc]⟩
theorem zP2(D:List (List En))(path:List Int)(weight:Int)(l:List Arc)(i:Nat):tA D path weight l=tA D path weight (l.take i)++tA D path weight (l.drop i):=by
 conv=>lhs;rw[←List.take_append_drop i l]
 unfold tA udA;rw[List.flatMap_append,List.map_append]
theorem wrap_pl{pl:Nat}(h:pl<24):IntKind.i64.wrap (pl:Int)=(pl:Int):=by
 first|exact wrap_small _ (by omega) (by omega)|(rw[IntKind.wrap_i64];exact IntWalk.wrap64_in _ (by omega))|(rw[IntKind.wrap_i64];unfold wrap64;omega)
structure VL(w0:World)(B tb wb:Nat)(yv:Value)(I:CI)(A:Nat→Prop)(pre:List Pr)(Ws:World)(k:Nat)(pv:Value)(path:List Int)(L:List Pr)(A1:Nat→Prop)(pv1:Value)(wr:World):Prop where
 ext:Ext A A1 Ws
 upd:Upd (fun j=>A j∨j=tb∨pv.ownBlock=some j) Ws wr
 new:NewP Ws pv pv1
 vs:VS w0 B tb wb yv I A1 (pre++L.drop k) wr (k-L.length) pv1 path
variable {Ws wr W7 W8 W9:World} {L Y:List Pr} {A1 A2:Nat→Prop} {pv1 pv2 pv3:Value} {X:CI}
theorem VL.skip(h:VL w0 B tb wb yv I A pre Ws k pv path L A1 pv1 wr)(hB:w0.heap.size≤B)(hI:zGa B I)(hb7:Below wr.heap.size wr W7)(hy:Y.length≤k-L.length):VL w0 B tb wb yv I A pre Ws k pv path (L++Y) A1 pv1 (W7.setCell ⟨tb,1,none⟩ (.int .i64 ((k-L.length-Y.length:Nat):Int))):=by
 have hv:=(h.vs.below hI hb7).skip hB hI (k-L.length-Y.length);have e:k-(L++Y).length=k-L.length-Y.length:=by rw[List.length_append];omega
 refine⟨h.ext,(h.upd.trans (G:=fun j=>A j∨j=tb∨pv.ownBlock=some j) (Upd.of_below hb7) (fun _ _ g=>g)).trans (G:=fun j=>j=tb) (zBi _ _ _ _) (fun _ _ g => .inr (.inl g)),h.new,?_⟩;rw[zW4 hy,e];exact hv
theorem VL.deep{c:Int}(h:VL w0 B tb wb yv I A pre Ws k pv path L A1 pv1 wr)(hB:w0.heap.size≤B)(hI:zGa B I)(hb7:Below wr.heap.size wr W7)(hu8:Upd (fun j=>j=tb∨pv1.ownBlock=some j) W7 W8)(hn8:NewP W7 pv1 pv2)(he9:Ext A1 A2 W8)(hu9:Upd (fun j=>A1 j∨j=tb∨pv2.ownBlock=some j) W8 W9)(hn9:NewP W8 pv2 pv3)
 (hv9:VS w0 B tb wb yv I A2 (pre++L.drop k++Y.drop (k-L.length)) W9 (k-L.length-Y.length) pv3 (path++[c])):∃g cap,pv3 = .slice (some ⟨g,0,none⟩) (path.length+1) cap∧path.length+1≤cap∧VL w0 B tb wb yv I A pre Ws k pv path (L++Y) A2 (.slice (some ⟨g,0,none⟩) path.length cap) (W9.drew.setCell ⟨tb,2,none⟩ (.slice (some ⟨g,0,none⟩) path.length cap)):=by
 have hbd:Below W9.heap.size W9 W9.drew:=(Below.refl _ W9).drew;obtain⟨g,cap,hv,hc,hvp⟩:=(hv9.below hI hbd).pop hB hI;refine⟨g,cap,hv,hc,?_⟩;have hs7:Ws.heap.size≤W7.heap.size:=Nat.le_trans h.upd.size hb7.size;have hs8:Ws.heap.size≤W8.heap.size:=Nat.le_trans hs7 hu8.size;have n1:NewP Ws pv pv2:=h.new.trans hn8 hs7;have n2:NewP Ws pv pv3:=n1.trans hn9 hs8;have e:k-(L++Y).length=k-L.length-Y.length:=by rw[List.length_append];omega
 have hp:∀{q:Value},NewP Ws pv q→∀j,j<Ws.heap.size→q.ownBlock=some j→pv.ownBlock=some j:=fun hn j hj hq=>by
  rcases hn with h1|⟨g,h1,h2⟩
  · exact h1▸hq
  · rw[h1]at hq;cases hq;omega
 refine⟨h.ext.trans he9 hs8,?_,?_,?_⟩
 · refine(((h.upd.trans (G:=fun j=>A j∨j=tb∨pv.ownBlock=some j) (Upd.of_below hb7) (fun _ _ g=>g)).trans hu8 (fun j hj g=>?_)).trans hu9 (fun j hj g=>?_)).trans (G:=fun j=>j=tb) ((Upd.of_below (F:=fun j=>j=tb) hbd).trans (zBi _ _ _ _) (fun _ _ g=>g)) (fun _ _ g => .inr (.inl g))
   · rcases g with g|g
     · exact .inr (.inl g)
     · exact .inr (.inr (hp h.new j hj g))
   · rcases g with g|g|g
     · exact(h.ext.2 j g).elim .inl (fun h2=>by omega)
     · exact .inr (.inl g)
     · exact .inr (.inr (hp n1 j hj g))
 · have:(Value.slice (some ⟨g,0,none⟩) path.length cap).ownBlock=pv3.ownBlock:=by rw[hv];rfl
   rcases n2 with h1|⟨g2,h1,h2⟩
   · exact .inl (this.trans h1)
   · exact .inr ⟨g2,this.trans h1,h2⟩
 · rw[List.drop_append,e,←List.append_assoc]
   exact hvp
theorem VL.stop(h:VL w0 B tb wb yv I A pre Ws k pv path L A1 pv1 wr)(hs:Below W.heap.size W Ws)(hb7:Below wr.heap.size wr W7)(hu8:Upd (fun j=>j=tb∨pv1.ownBlock=some j) W7 W8)(hn8:NewP W7 pv1 pv2)(he9:Ext A1 A2 W8)(hu9:Upd (fun j=>A1 j∨j=tb∨pv2.ownBlock=some j) W8 W9):Ext A A2 W∧Upd (fun j=>A j∨j=tb∨pv.ownBlock=some j) W W9:=by
 have hs7:Ws.heap.size≤W7.heap.size:=Nat.le_trans h.upd.size hb7.size;have hs8:Ws.heap.size≤W8.heap.size:=Nat.le_trans hs7 hu8.size;have n1:NewP Ws pv pv2:=h.new.trans hn8 hs7;have hp:∀{q:Value},NewP Ws pv q→∀j,j<Ws.heap.size→q.ownBlock=some j→pv.ownBlock=some j:=fun hn j hj hq=>by
  rcases hn with h1|⟨g,h1,h2⟩
  · exact h1▸hq
  · rw[h1]at hq;cases hq;omega
 have he:=h.ext.trans he9 hs8;refine⟨⟨he.1,fun j hj=>(he.2 j hj).imp id (fun g=>Nat.le_trans hs.size g)⟩,?_⟩;refine(Upd.of_below hs).trans (((h.upd.trans (G:=fun j=>A j∨j=tb∨pv.ownBlock=some j) (Upd.of_below hb7) (fun _ _ g=>g)).trans hu8 (fun j hj g=>?_)).trans hu9 (fun j hj g=>?_)) (fun _ _ g=>g)
 · rcases g with g|g
   · exact .inr (.inl g)
   · exact .inr (.inr (hp h.new j hj g))
 · rcases g with g|g|g
   · exact(h.ext.2 j g).elim .inl (fun h2=>by omega)
   · exact .inr (.inl g)
   · exact .inr (.inr (hp n1 j hj g))
theorem VL.out(h:VL w0 B tb wb yv I A pre Ws k pv path L A1 pv1 wr)(hs:Below W.heap.size W Ws):zNy w0 B tb wb yv I X A pre W k pv path L (.returned (.bool true)) wr:=by
 refine .inl ⟨rfl,A1,pv1,⟨h.ext.1,fun j hj=>(h.ext.2 j hj).imp id (fun g=>Nat.le_trans hs.size g)⟩,(Upd.of_below hs).trans h.upd (fun _ _ g=>g),h.vs,?_⟩;rcases h.new with h1|⟨g,h1,h2⟩
 · exact .inl h1
 · exact .inr ⟨g,h1,Nat.le_trans hs.size h2⟩
end
section
open Go.RowKit Go.Shelf Nums Fm Pk
set_option maxRecDepth 1000000
shelf_lay_g SlLaysE0.n41 Slgn 41 at Tryz 145 as cloneSt
shelf_lay_g SlLaysF0.n6 Slsf 6 at Tryz 146 as sortSt
structure StX(E:Nat)(w:World)(xss:List (List Value))(m:List RSt):Prop where
 len:xss.length=m.length
 all:∀(i:Nat) (s:RSt),m[i]?=some s→∃va,xss[i]?=some [.bool s.final,.int .i64 s.out,va]∧ArcsAt E w va s.arcs
 sml:∀s∈m,s.arcs.length≤1114112
theorem StX.below{E:Nat}{w w':World}{xss:List (List Value)}{m:List RSt}(h:StX E w xss m)(hb:Below E w w'):StX E w' xss m:=⟨h.len,fun i s hi=>by obtain⟨va,e1,e2⟩:=h.all i s hi;exact⟨va,e1,e2.below hb⟩,h.sml⟩
theorem StX.cells{E:Nat}{w:World}{xss:List (List Value)}{m:List RSt}(h:StX E w xss m):∀x∈xss,zG7 3 x:=fun x hx=>by
 obtain⟨i,hi,rfl⟩:=List.getElem_of_mem hx;obtain⟨s,hs⟩:∃s,m[i]?=some s:=⟨m[i]'(by have:=h.len;omega),List.getElem?_eq_getElem _⟩;obtain⟨va,e1,e2⟩:=h.all i s hs;obtain⟨ad,cap,rfl⟩:=e2.shape;rw[List.getElem?_eq_getElem hi]at e1;rw[Option.some.inj e1];exact⟨rfl,by simp[Value.oneCell']⟩
theorem zOz:∀(xss:List (List Value)),(∀x∈xss,x.length=3)→∀(j:Nat) (u:Value),xss.flatten[j]?=some u→∃i c x,j=i*3+c∧xss[i]?=some x∧x[c]?=some u
 |[],_,j,u,h=>by simp at h
 |y::r,hk,j,u,h=>by
  have hy:=hk y (by simp);rw[List.flatten_cons]at h;by_cases hj:j<3
  · rw[List.getElem?_append_left (by omega)]at h
    exact⟨0,j,y,by omega,rfl,h⟩
  · rw[List.getElem?_append_right (by omega),hy]at h
    obtain⟨i,c,x,e,h1,h2⟩:=zOz r (fun x hx=>hk x (by simp[hx])) (j-3) u h;exact⟨i+1,c,x,by omega,by simpa using h1,h2⟩
theorem zId:∀(xss:List (List Value)),(∀x∈xss,x.length=3)→xss.flatten.length=xss.length*3
 |[],_=>rfl
 |y::r,hk=>by
  rw[List.flatten_cons,List.length_append,zId r (fun x hx=>hk x (by simp[hx])),hk y (by simp),List.length_cons];omega
theorem zS6(E:Nat)(w:World)(xss:List (List Value))(m:List RSt)(vs:Value)(h:GRow E 3 w vs xss)(hX:StX E w xss m)(h0:m≠[])(hm:m.length≤1048576):
 Calls Tryz.prog 145 #[vs] w fun e w'=>∃g cap,e = .returned (.slice (some ⟨g,0,none⟩) m.length cap)∧GOwn 91 3 w.heap.size w' (.slice (some ⟨g,0,none⟩) m.length cap) xss∧Below w.heap.size w w':=by
 obtain⟨z,hz,hzs⟩:=rtyS.inf;obtain⟨i,hi,hz0,hz1,hz2⟩:=info_parts hz;have hsz:∀w,(Go.sizeOf 91).run Tryz.prog w = .ok 3 w:=fun w=>by simp[sizeOf,typeInfo,hi,hz1,Result.andThen]
 have hcl:=hX.cells;have hl3:∀x∈xss,x.length=3:=fun x hx=>(hcl x hx).1
 have hpos:=List.length_pos_iff.2 h0;have hlen:=hX.len;obtain⟨ad,cap,rfl,hc⟩:=h.ex;obtain⟨g,off,rfl,hg,hx⟩:=hc (by omega);have hcell:∀(j:Nat) u,xss.flatten[j]?=some u→w.cell? ⟨g,off+j,none⟩=some u:=fun j u hj=>by
  obtain⟨i,c,x,rfl,h1,h2⟩:=zOz xss hl3 j u hj;have:=hx i c x u h1 h2
  rwa [Nat.add_assoc]at this
 have hone:∀u∈xss.flatten,u.oneCell'=true:=fun u hu=>by
  obtain⟨x,hx,hux⟩:=List.mem_flatten.1 hu;exact(hcl x hx).2 u hux
 have hcall:Calls Tryz.prog 145 #[.slice (some ⟨g,off,none⟩) xss.length cap] w fun e w'=>∃v',e = .returned v'∧w'.ownsRow w.heap.size 91 3 v' xss.length xss.flatten∧v' ≠ .slice none 0 0∧Below w.heap.size w w':=
  AnyE.slices_Clone cloneSt i z 3 40 hi hz0 hz1 hz2 hzs (by decide) hsz g off xss.length cap xss.flatten w (zId xss hl3) (by unfold maxLen;omega) (by omega) hcell hone
 refine hcall.mono ?_;rintro e w' ⟨v',rfl,ho,hne,hb⟩;have hO:GOwn 91 3 w.heap.size w' v' xss:=⟨hcl,ho⟩;obtain⟨g',cap',hv,_⟩:=hO.cell (by omega);subst hv;rw[hlen]at hO ⊢;exact⟨g',cap',rfl,hO,hb⟩
def encS(xss:List (List Value))(i:Nat):List Value:=xss.getD i [.bool false,.int .i64 0,.slice none 0 0]
theorem zEy{E:Nat}{w:World}{xss:List (List Value)}{m:List RSt}(h:StX E w xss m)(i:Nat):∃va,encS xss i=[.bool (m.getD i zS).final,.int .i64 (m.getD i zS).out,va]∧ArcsAt E w va (m.getD i zS).arcs∧(m.getD i zS).arcs.length≤1114112∧va.oneCell'=true:=by
 cases hs:m[i]? with
 |none=>
  have hx:xss[i]?=none:=List.getElem?_eq_none (by have:=h.len;have:=List.getElem?_eq_none_iff.1 hs;omega);rw[encS,List.getD_eq_getElem?_getD,hx,List.getD_eq_getElem?_getD,hs];exact⟨_,rfl,⟨⟨_,_,rfl,fun h=>by simp[zS]at h⟩,fun a ha=>by simp[zS]at ha,by simp[zS]⟩,by simp[zS],rfl⟩
 |some s=>
  obtain⟨va,e1,e2⟩:=h.all i s hs;rw[encS,List.getD_eq_getElem?_getD,e1,List.getD_eq_getElem?_getD,hs];obtain⟨ad,cap,hv⟩:=e2.shape;exact⟨va,rfl,e2,h.sml s (List.mem_of_getElem? hs),by rw[hv];rfl⟩
theorem sortFar{enc:Nat→List Value}{w:World}{blk off q:Nat}{d:Array Nat}{os:Array Obj}{k:Nat}(hk:k<w.heap.size)(hne:k≠blk):(sortWorldK enc 3 w blk off q d os).heap[k]?=w.heap[k]?:=by
 unfold sortWorldK Go.Sort.grow Go.Sort.putRowK Go.Sort.putRow Go.Sort.mapBlock;simp only;rw[Array.getElem?_append_left (by simpa[Go.Sort.ahead]using hk),Array.getElem?_modify,if_neg (fun e=>hne e.symm)];rfl
theorem zMf{enc:Nat→List Value}{w:World}{blk off q:Nat}{d:Array Nat}{os:Array Obj}{B:Nat}(hB:B≤blk)(hBw:B≤w.heap.size):Below B w (sortWorldK enc 3 w blk off q d os):=by
 refine⟨rfl,rfl,rfl,?_,fun k hk=>sortFar (by omega) (by omega)⟩;unfold sortWorldK Go.Sort.grow Go.Sort.putRowK Go.Sort.putRow Go.Sort.mapBlock;simp[Go.Sort.ahead]
theorem zUc(E B:Nat)(w:World)(xss:List (List Value))(m:List RSt)(g cap:Nat)(hO:GOwn 91 3 B w (.slice (some ⟨g,0,none⟩) m.length cap) xss)(hX:StX E w xss m)(hEB:E≤B)(hBw:B≤w.heap.size)(h0:m≠[])(hm:m.length≤1048576):
 Calls Tryz.prog 146 #[.slice (some ⟨g,0,none⟩) m.length cap,.func (.func 147) #[] #[]] w fun e w'=>e = .returned (.tuple #[])∧∃d:Array Nat,d.size=m.length∧d.toList.Perm (List.range m.length)∧Go.Sort.SortedIn (ltOf (cfS m)) 0 m.length d∧Go.Sort.HoldsK (encS xss) 3 w' g 0 d∧Below B w w':=by
 have hlen:=hX.len;have hpos:=List.length_pos_iff.2 h0;have eg:∀args w,(callFunc 147 args).run Tryz.prog w = .ok (.enter 147 args) w:=enters_of Tryz.func147 (by kernel_rfl) rfl;have hk:∀x,(encS xss x).length=3:=fun x=>by obtain⟨va,e,_⟩:=zEy hX x;rw[e];rfl
 have h1:∀x,∀v∈encS xss x,v.oneCell'=true:=fun x v hv=>by
  obtain⟨va,e,_,_,ho⟩:=zEy hX x;rw[e]at hv;simp only[List.mem_cons,List.not_mem_nil,or_false]at hv;rcases hv with rfl|rfl|rfl
  · rfl
  · rfl
  · exact ho
 obtain⟨hg,cur,hblk⟩:=hO.block (g:=g) rfl;have hgw:=(Array.getElem?_eq_some_iff.1 hblk).1;have hH:Go.Sort.HoldsK (encS xss) 3 w g 0 (Array.range m.length):=by
  obtain⟨g',cap',e,_,_,_,hc⟩:=hO.cell (by omega);simp only[Value.slice.injEq,Option.some.injEq,Addr.mk.injEq,and_true]at e;have eg':g=g':=e.1;subst eg';intro t ht;have ht2:t<m.length*3:=by simpa using ht
  obtain⟨i,j,rfl,hj⟩:∃i j,t=i*3+j∧j<3:=⟨t/3,t%3,by omega,by omega⟩;have hi:i<m.length:=by omega
  have hx:xss[i]?=some (xss[i]'(by omega)):=List.getElem?_eq_getElem _;have hl:=hk i;have he:encS xss i=xss[i]'(by omega):=by rw[encS,List.getD_eq_getElem?_getD,hx];rfl
  rw[he]at hl;refine⟨?_,by simp[World.frozen?,hblk]⟩;rw[Go.Sort.get_flatK _ _ _ _ (by simpa using ht2),show(i*3+j)/3=i by omega,show(i*3+j)%3=j by omega];have el:(Array.range m.length)[i]! = i:=by simp[hi]
  rw[el,he,Nat.zero_add];have hjl:j<(xss[i]'(by omega)).length:=by omega
  rw[getElem!_pos _ j hjl];exact hc i j _ _ hx (List.getElem?_eq_getElem hjl)
 have hcmp:CmpLays Tryz.prog 147 #[] (encS xss) 3 (cfS m) g 0 (Array.range m.length).size w:=fun q os dk _ x y=>by
  obtain⟨va,ea,ha,hla,_⟩:=zEy hX x;obtain⟨vb,eb,hb,hlb,_⟩:=zEy hX y;have hbl:Below E w (sortWorldK (encS xss) 3 w g 0 q dk os):=zMf (by omega) (by omega);rw[ea,eb];refine(zDh E _ _ va vb _ (ha.below hbl) (hb.below hbl) (Nat.le_trans (by omega) hbl.size) hla hlb).mono ?_;rintro e w' ⟨rfl,hgr⟩;exact⟨rfl,hgr.grown⟩
 have hc:=AnyQ.slices_SortFunc sortSt 3 Tryz.isAgg91 Tryz.sizeOf91 (encS xss) hk h1 (cfS m) (cfS_swo m) 147 #[] g 0 cap (Array.range m.length) w eg hcmp hH hgw (by simp;omega);rw[Array.size_range]at hc;refine hc.mono ?_;rintro e w' ⟨rfl,d,q,os,hp,hs,rfl⟩;obtain⟨hp1,_,hp3⟩:=hp;have hds:d.size=m.length:=by simpa using hp1
 have hsw:SWK (encS xss) 3 w g 0 d (sortWorldK (encS xss) 3 w g 0 q d os):=⟨q,os,rfl⟩;refine⟨rfl,d,hds,?_,hs,hsw.holds hgw hH (by simpa using hds),zMf hg hBw⟩;have e1:d.extract 0 m.length=d:=by rw[←hds];simp
 have e2:(Array.range m.length).extract 0 m.length=Array.range m.length:=by simp
 rw[e1,e2]at hp3;simpa using hp3
end
section
namespace Lv
open Ed
def mk(f:Nat→Nat):List Nat:=(List.range 25).map f
theorem zCs(f:Nat→Nat):(mk f).length=25:=by simp[mk]
theorem zH6(f:Nat→Nat){j:Nat}(h:j<25):(mk f)[j]?=some (f j):=by simp[mk,h]
theorem zDo(f:Nat→Nat){j:Nat}(h:j<25):(mk f).getD j 0=f j:=by rw[List.getD_eq_getElem?_getD,zH6 f h];rfl
theorem mk_of{s:List Nat}(h:s.length=25):s=mk fun j=>s.getD j 0:=by
 apply List.ext_getElem?;intro i;by_cases hi:i<25
 · rw[zH6 _ hi,List.getD_eq_getElem?_getD,List.getElem?_eq_getElem (by omega)];rfl
 · rw[List.getElem?_eq_none (by omega),List.getElem?_eq_none (by rw[zCs];omega)]
theorem zBd{f g:Nat→Nat}(h:∀j,j<25→f j=g j):mk f=mk g:=List.map_congr_left fun j hj=>h j (List.mem_range.1 hj)
theorem mk_inj{f g:Nat→Nat}(h:mk f=mk g){j:Nat}(hj:j<25):f j=g j:=by
 have:=congrArg (fun l=>l[j]?) h;simp only[zH6 _ hj]at this;exact Option.some.inj this
theorem zMp(f:Nat→Nat){k:Nat}(x:Nat)(hk:k<25):(mk f).set k x=mk fun j=>if j=k then x else f j:=by
 apply List.ext_getElem?;intro i;by_cases hi:i<25
 · rw[List.getElem?_set,zH6 _ hi,zH6 _ hi]
   by_cases h:k=i
   · subst h;simp[zCs,hk]
   · rw[if_neg h,if_neg (fun e=>h e.symm)]
 · rw[List.getElem?_eq_none (by rw[List.length_set,zCs];omega),List.getElem?_eq_none (by rw[zCs];omega)]
theorem zVi{f:Nat→Nat}(h:∀j,j<25→f j<256):∀x∈mk f,x<256:=by
 intro x hx;obtain⟨j,hj,rfl⟩:=List.mem_map.1 hx;exact h j (List.mem_range.1 hj)
def dd(n d j:Nat):Nat:=if j≤n then d+1 else 0
theorem dd_le(n d j:Nat):dd n d j≤d+1:=by unfold dd;split<;>omega
def zFa(n d:Nat):List Nat:=mk (dd n d)
def cutF(n d:Nat)(s:List Nat)(j:Nat):Nat:=min (s.getD j 0) (dd n d j)
def cutL(n d:Nat)(s:List Nat):List Nat:=mk (cutF n d s)
def cutK(n d:Nat)(s:List Nat)(k:Nat):List Nat:=mk fun j=>if j<k then cutF n d s j else s.getD j 0
theorem zXd{n d:Nat}{s:List Nat}(h:s.length=25):cutK n d s 0=s:=by
 rw[cutK];simp only[Nat.not_lt_zero,if_false];exact(mk_of h).symm
theorem cutK_end(n d:Nat)(s:List Nat):cutK n d s 25=cutL n d s:=zBd fun _ hj=>if_pos hj
theorem cutK_get(n d:Nat)(s:List Nat){k:Nat}(h:k<25):(cutK n d s k).getD k 0=s.getD k 0:=by
 rw[cutK,zDo _ h];simp
theorem zXe(n d:Nat)(s:List Nat){k:Nat}(h:k<25):(cutK n d s k).set k (cutF n d s k)=cutK n d s (k+1):=by
 rw[cutK,zMp _ _ h];refine zBd fun j _=>?_
 by_cases h1:j=k
 · subst h1;simp
 · rw[if_neg h1]
   by_cases h2:j<k
   · rw[if_pos h2,if_pos (by omega)]
   · rw[if_neg h2,if_neg (by omega)]
theorem zDt(n d:Nat)(s:List Nat):(cutL n d s).length=25:=zCs _
theorem cutK_len(n d:Nat)(s:List Nat)(k:Nat):(cutK n d s k).length=25:=zCs _
theorem zXf(n d:Nat)(s:List Nat)(j:Nat):cutF n d s j≤d+1:=Nat.le_trans (Nat.min_le_right _ _) (dd_le _ _ _)
def risK(k:Nat):List Nat:=mk fun j=>if j<k then j else 0
def zFj(n d:Nat):List Nat:=cutL n d (mk fun j=>j)
theorem zUo:risK 0=mk fun _=>0:=zBd fun j _=>by simp
theorem risK_end:risK 25=mk fun j=>j:=zBd fun _ hj=>if_pos hj
theorem zUp{k:Nat}(h:k<25):(risK k).set k k=risK (k+1):=by
 rw[risK,zMp _ _ h];refine zBd fun j _=>?_
 by_cases h1:j=k
 · subst h1;simp
 · rw[if_neg h1]
   by_cases h2:j<k
   · rw[if_pos h2,if_pos (by omega)]
   · rw[if_neg h2,if_neg (by omega)]
def nx(xs:List Int)(r:Int)(c:List Nat):Nat→Nat
 |0=>c.getD 0 0+1
 |j+1=>min (c.getD j 0+if xs.getD j 0=r then 0 else 1) (min (c.getD (j+1) 0+1) (nx xs r c j+1))
theorem nx_le{xs:List Int}{r:Int}{c:List Nat}{d:Nat}(h:∀j,c.getD j 0≤d+1)(j:Nat):nx xs r c j≤d+2:=by
 cases j with
 |zero=>have:=h 0;simp only[nx];omega
 |succ j=>have:=h (j+1);simp only[nx];omega
def nxK(xs:List Int)(r:Int)(c:List Nat)(k:Nat):List Nat:=mk fun j=>if j≤k then nx xs r c j else 0
theorem zGo(xs:List Int)(r:Int)(c:List Nat)(k:Nat):(nxK xs r c k).length=25:=zCs _
theorem nxK_get(xs:List Int)(r:Int)(c:List Nat){k:Nat}(h:k<25):(nxK xs r c k).getD k 0=nx xs r c k:=by
 rw[nxK,zDo _ h];simp
theorem zQq(xs:List Int)(r:Int)(c:List Nat){k:Nat}(h:k+1<25):(nxK xs r c k).set (k+1) (nx xs r c (k+1))=nxK xs r c (k+1):=by
 rw[nxK,zMp _ _ h];refine zBd fun j _=>?_
 by_cases h1:j=k+1
 · subst h1;simp
 · rw[if_neg h1]
   by_cases h2:j≤k
   · rw[if_pos h2,if_pos (by omega)]
   · rw[if_neg h2,if_neg (by omega)]
def stepL(xs:List Int)(d:Nat)(s:List Nat)(r:Int):List Nat:=cutL xs.length d (nxK xs r (cutL xs.length d s) xs.length)
theorem zHv(xs:List Int)(d:Nat)(s:List Nat)(r:Int):(stepL xs d s r).length=25:=zCs _
theorem zGf(n d:Nat):(zFj n d).length=25:=zCs _
theorem zHg{n d:Nat}{s:List Nat}{j:Nat}(h:j<25):(cutL n d s).getD j 0=cutF n d s j:=zDo _ h
theorem zOx(n d:Nat)(s:List Nat)(j:Nat):(cutL n d s).getD j 0≤d+1:=by
 by_cases h:j<25
 · rw[zHg h];exact zXf _ _ _ _
 · rw[List.getD_eq_getElem?_getD,List.getElem?_eq_none (by rw[zDt];omega)];exact Nat.zero_le _
def rx(xs:List Int)(d:Nat)(r:Int)(s:List Nat):Nat→Nat
 |0=>min (min (s.getD 0 0) (d+1)+1) (d+1)
 |j+1=>min (min (min (min (s.getD j 0) (d+1)+if xs.getD j 0=r then 0 else 1) (min (s.getD (j+1) 0) (d+1)+1)) (rx xs d r s j+1)) (d+1)
def rxK(xs:List Int)(d:Nat)(r:Int)(s:List Nat)(k:Nat):List Nat:=mk fun j=>if j<k then rx xs d r s j else 0
theorem rxK_get(xs:List Int)(d:Nat)(r:Int)(s:List Nat){j k:Nat}(h:j<25)(hk:j<k):(rxK xs d r s k).getD j 0=rx xs d r s j:=by
 rw[rxK,zDo _ h,if_pos hk]
theorem rx_nx(xs:List Int)(d:Nat)(r:Int)(s:List Nat)(hn:xs.length≤24):∀j,j≤xs.length→rx xs d r s j=min (nx xs r (cutL xs.length d s) j) (d+1)
 |0,_=>by
  simp only[rx,nx,zHg (show 0<25 by omega),cutF,dd,Nat.zero_le,if_true]
 |j+1,h=>by
  have ih:=rx_nx xs d r s hn j (by omega);simp only[rx,nx];rw[ih,zHg (show j<25 by omega),zHg (show j+1<25 by omega)];simp only[cutF,dd,if_pos h,if_pos (show j≤xs.length by omega)];omega
theorem zP6{xs:List Int}(d:Nat)(r:Int)(s:List Nat)(hn:xs.length≤24):rxK xs d r s (xs.length+1)=stepL xs d s r:=by
 refine zBd fun j hj=>?_
 by_cases h:j≤xs.length
 · rw[if_pos (by omega),rx_nx xs d r s hn j h,cutF,nxK,zDo _ hj,if_pos h,dd,if_pos h]
 · rw[if_neg (by omega),cutF,dd,if_neg h];omega
def rowF(xs:List Int)(d:Nat)(t:List Int)(j:Nat):Nat:=min (lv t (xs.take j)) (d+1)
def rowK(xs:List Int)(d:Nat)(t:List Int)(k:Nat):List Nat:=mk fun j=>if j<k then rowF xs d t j else 0
def rowL(xs:List Int)(d:Nat)(t:List Int):List Nat:=rowK xs d t (xs.length+1)
theorem zBy(xs:List Int)(d:Nat)(t:List Int):(rowL xs d t).length=25:=zCs _
theorem zUa{xs:List Int}(d:Nat):zFj xs.length d=rowL xs d []:=by
 unfold zFj cutL rowL rowK;refine zBd fun j hj=>?_
 rw[cutF,zDo _ hj];by_cases h:j≤xs.length
 · rw[if_pos (by omega),dd,if_pos h,rowF,zCm,List.length_take,Nat.min_eq_left h]
 · rw[if_neg (by omega),dd,if_neg h];omega
theorem zFk{xs:List Int}(d:Nat)(t:List Int)(hn:xs.length≤24){j:Nat}(h:j≤xs.length):(rowL xs d t).getD j 0=rowF xs d t j:=by
 rw[rowL,rowK,zDo _ (by omega),if_pos (by omega)]
theorem rx_row{xs:List Int}(d:Nat)(t:List Int)(r:Int)(hn:xs.length≤24):∀j,j≤xs.length→rx xs d r (rowL xs d t) j=rowF xs d (t++[r]) j
 |0,_=>by
  simp only[rx,zFk d t hn (Nat.zero_le _),rowF,List.take_zero,zCu,List.length_append,List.length_singleton];omega
 |j+1,h=>by
  have ih:=rx_row d t r hn j (by omega);obtain⟨x,hx⟩:∃x,xs[j]?=some x:=⟨_,List.getElem?_eq_getElem (by omega)⟩;have ht:xs.take (j+1)=xs.take j++[x]:=by rw[List.take_add_one,hx];rfl
  have hg:xs.getD j 0=x:=by rw[List.getD_eq_getElem?_getD,hx];rfl
  simp only[rx];rw[ih,zFk d t hn (show j≤xs.length by omega),zFk d t hn h,hg];simp only[rowF];rw[ht,zVr];by_cases e:x=r
  · rw[if_pos e,if_pos e.symm];omega
  · rw[if_neg e,if_neg (fun h=>e h.symm)];omega
theorem zP5{xs:List Int}(d:Nat)(t:List Int)(r:Int)(hn:xs.length≤24):stepL xs d (rowL xs d t) r=rowL xs d (t++[r]):=by
 rw[←zP6 d r _ hn];unfold rxK rowL rowK;refine zBd fun j hj=>?_
 by_cases h:j<xs.length+1
 · rw[if_pos h,if_pos h];exact rx_row d t r hn j (by omega)
 · rw[if_neg h,if_neg h]
def zNf(n d:Nat)(s:List Nat):Nat:=if s.getD n 0≤d then s.getD n 0 else 0
def zI8(n d:Nat)(s:List Nat):Bool:=decide (s.getD n 0≤d)
def zCz(n d:Nat)(s:List Nat):Bool:=!decide (cutL n d s=zFa n d)
theorem zIr{n d:Nat}{s:List Nat}(hn:n≤24):zCz n d s=false↔∀j,j≤n→d<s.getD j 0:=by
 unfold zCz;simp only[Bool.not_eq_false',decide_eq_true_eq];constructor
 · intro h j hj
   have:=mk_inj h (show j<25 by omega);rw[cutF,dd,if_pos hj]at this;omega
 · intro h
   (refine zBd fun j _=>?_);rw[cutF];by_cases hj:j≤n
   · have:=h j hj
     rw[dd,if_pos hj];omega
   · rw[dd,if_neg hj];omega
theorem zOh{xs:List Int}{d:Nat}{s:List Nat}(r:Int)(h:∀j,j≤xs.length→d<s.getD j 0):∀j,j≤xs.length→rx xs d r s j=d+1
 |0,_=>by have:=h 0 (Nat.zero_le _);simp only[rx];omega
 |j+1,hj=>by
  have ih:=zOh r h j (by omega);have h1:=h j (by omega);have h2:=h (j+1) hj;simp only[rx];rw[ih];omega
theorem zMb{xs:List Int}(d:Nat)(r:Int)(s:List Nat)(hn:xs.length≤24){j:Nat}(h:j≤xs.length):(stepL xs d s r).getD j 0=rx xs d r s j:=by
 rw[←zP6 d r s hn,rxK_get _ _ _ _ (by omega) (by omega)]
theorem zW7{xs:List Int}{d:Nat}{s:List Nat}(r:Int)(hn:xs.length≤24)(h:zCz xs.length d s=false):zCz xs.length d (stepL xs d s r)=false∧zI8 xs.length d (stepL xs d s r)=false:=by
 have h1:=(zIr hn).1 h;refine⟨(zIr hn).2 fun j hj=>?_,?_⟩
 · rw[zMb d r s hn hj,zOh r h1 j hj];omega
 · rw[zI8,zMb d r s hn (Nat.le_refl _),zOh r h1 _ (Nat.le_refl _)];simp
theorem dist_row{xs:List Int}(d:Nat)(t:List Int)(hn:xs.length≤24):zI8 xs.length d (rowL xs d t)=decide (lv t xs≤d)∧(lv t xs≤d→zNf xs.length d (rowL xs d t)=lv t xs):=by
 have e:(rowL xs d t).getD xs.length 0=min (lv t xs) (d+1):=by rw[zFk d t hn (Nat.le_refl _),rowF,List.take_length]
 refine⟨?_,fun h=>?_⟩
 · rw[zI8,e];apply decide_eq_decide.2;omega
 · rw[zNf,e,if_pos (by omega)];omega
end Lv
end
namespace Fz
open Go.Proofs.YtobjpljdgieklaaGreatDoor.Nums Go.Proofs.YtobjpljdgieklaaGreatDoor.Fm Go.Proofs.YtobjpljdgieklaaGreatDoor Go.Proofs.YtobjpljdgieklaaGreatDoor.Pk Go.Proofs.YtobjpljdgieklaaGreatDoor.Ed Go.Proofs.YtobjpljdgieklaaGreatDoor.Lv
abbrev Mt:=ByteArray×Int×Int
def hit(xs:List Int)(d:Nat)(e:En):Option Mt:=if lv e.1 xs≤d then some (zAv e.1,e.2,(lv e.1 xs:Int))else none
def hits(xs:List Int)(d:Nat)(R:List En):List Mt:=R.filterMap (hit xs d)
theorem zCp(xs:List Int)(d:Nat)(R S:List En):hits xs d (R++S)=hits xs d R++hits xs d S:=List.filterMap_append
theorem hits_len(xs:List Int)(d:Nat)(R:List En):(hits xs d R).length≤R.length:=List.length_filterMap_le _ _
theorem zW8{xs:List Int}{d:Nat}{t:List Int}(hn:xs.length≤24)(h:zCz xs.length d (rowL xs d t)=false):d<lv t xs:=by
 have h1:=(zIr hn).1 h xs.length (Nat.le_refl _);rw[zFk d t hn (Nat.le_refl _),rowF,List.take_length]at h1;omega
theorem zRj{xs:List Int}{d:Nat}(hn:xs.length≤24):∀(r t:List Int),zCz xs.length d (rowL xs d t)=false→d<lv (t++r) xs
 |[],t,h=>by rw[List.append_nil];exact zW8 hn h
 |c::r,t,h=>by
  have h2:=(zW7 c hn h).1;rw[zP5 d t c hn]at h2;have:=zRj hn r (t++[c]) h2;rw[List.append_assoc]at this;exact this
theorem zWl{xs:List Int}{d:Nat}(hn:xs.length≤24){t:List Int}(h:zCz xs.length d (rowL xs d t)=false)(sum:Int)(R:List En):hits xs d (ud t sum R)=[]:=by
 unfold hits ud;rw[List.filterMap_map];refine List.filterMap_eq_nil_iff.2 fun e _=>?_
 simp only[Function.comp,hit];rw[if_neg (by have:=zRj hn e.1 t h;omega)]
structure It where
 to:Nat
 lab:Int
 out:Int
 head:List Int
 wt:Int
def itE(D:List (List En))(i:It):List En:=ud (i.head++[i.lab]) (i.wt+i.out) (D[i.to]?.getD [])
def stE(D:List (List En))(l:List It):List En:=l.reverse.flatMap (itE D)
def itOf(head:List Int)(wt:Int)(a:Arc):It:=⟨a.to,a.label,a.out,head,wt⟩
def live(xs:List Int)(d:Nat)(head:List Int)(a:Arc):Bool:=zCz xs.length d (rowL xs d (head++[a.label]))
def push(xs:List Int)(d:Nat)(head:List Int)(wt:Int)(l:List Arc):List It:=(l.reverse.filter (live xs d head)).map (itOf head wt)
theorem zP8(D:List (List En))(l:List It)(i:It):stE D (l++[i])=itE D i++stE D l:=by
 unfold stE;rw[List.reverse_append,List.flatMap_append];simp
theorem zJi(D:List (List En))(l m:List It):stE D (l++m)=stE D m++stE D l:=by
 unfold stE;rw[List.reverse_append,List.flatMap_append]
theorem zP9(D:List (List En))(xs:List Int)(d:Nat)(head:List Int)(wt:Int)(l:List Arc):stE D (push xs d head wt l)=(l.filter (live xs d head)).flatMap fun a=>ud (head++[a.label]) (wt+a.out) (D[a.to]?.getD []):=by
 unfold stE push;rw[←List.map_reverse,←List.filter_reverse,List.reverse_reverse,List.flatMap_map];rfl
theorem zMt{xs:List Int}{d:Nat}(hn:xs.length≤24)(D:List (List En))(head:List Int)(wt:Int):∀l:List Arc,hits xs d ((l.filter (live xs d head)).flatMap fun a=>ud (head++[a.label]) (wt+a.out) (D[a.to]?.getD []))=hits xs d (udA D head wt l)
 |[]=>rfl
 |a::l=>by
  have ih:=zMt (d:=d) hn D head wt l;have e:udA D head wt (a::l)=ud (head++[a.label]) (wt+a.out) (D[a.to]?.getD [])++udA D head wt l:=by simp[udA]
  rw[e,zCp,←ih];cases h:live xs d head a with
  |true=>rw[List.filter_cons,if_pos h,List.flatMap_cons,zCp]
  |false=>
   rw[List.filter_cons,if_neg (by rw[h];simp),zWl hn h,List.nil_append]
theorem zUy{xs:List Int}{d:Nat}(hn:xs.length≤24)(D:List (List En))(its:List It)(head:List Int)(wt:Int)(l:List Arc):hits xs d (stE D (its++push xs d head wt l))=hits xs d (udA D head wt l)++hits xs d (stE D its):=by
 rw[zJi,zCp,zP9,zMt hn]
theorem zQj(D:List (List En))(xs:List Int)(d:Nat)(head:List Int)(wt:Int):∀l:List Arc,(stE D (push xs d head wt l)).length≤(udA D head wt l).length
 |[]=>by simp[push,stE]
 |a::l=>by
  have ih:=zQj D xs d head wt l;have e:udA D head wt (a::l)=ud (head++[a.label]) (wt+a.out) (D[a.to]?.getD [])++udA D head wt l:=by simp[udA]
  rw[zP9]at ih ⊢;rw[e,List.length_append];cases h:live xs d head a with
  |true=>rw[List.filter_cons,if_pos h,List.flatMap_cons,List.length_append];omega
  |false=>rw[List.filter_cons,if_neg (by rw[h];simp)];omega
def wgt(R:List En):Nat:=(R.map fun e=>e.1.length+1).sum
def itM(D:List (List En))(i:It):Nat:=wgt (D[i.to]?.getD [])
def stM(D:List (List En))(l:List It):Nat:=(l.map (itM D)).sum
theorem zJd(R S:List En):wgt (R++S)=wgt R+wgt S:=by simp[wgt]
theorem zTy(c o:Int):∀R:List En,wgt ((zAm o R).map (pre c))=wgt R+R.length
 |[]=>rfl
 |e::R=>by
  have ih:=zTy c o R;have e1:(zAm o (e::R)).map (pre c)=pre c (e.1,e.2+o)::(zAm o R).map (pre c):=rfl;have e2:∀(x:En) (L:List En),wgt (x::L)=x.1.length+1+wgt L:=fun x L=>by simp[wgt]
  rw[e1,e2,e2,ih];simp only[pre,List.length_cons];omega
theorem zPy(D:List (List En)):∀l:List Arc,wgt (flat (outs D l))=(l.map fun a=>wgt (D[a.to]?.getD [])).sum+(l.map fun a=>(D[a.to]?.getD []).length).sum
 |[]=>rfl
 |a::l=>by
  have e:flat (outs D (a::l))=(zAm a.out (D[a.to]?.getD [])).map (pre a.label)++flat (outs D l):=by simp[flat,outs]
  rw[e,zJd,zTy,zPy D l];simp only[List.map_cons,List.sum_cons];omega
theorem wgt_exp(D:List (List En))(s:St):wgt (exp D s)=(s.arcs.map fun a=>wgt (D[a.to]?.getD [])).sum+(exp D s).length:=by
 rw[zIh,exp,zJd,zPy];have:wgt (fins s)=if s.final then 1 else 0:=by unfold fins;cases s.final<;>rfl
 rw[this];omega
theorem zJh(D:List (List En))(l m:List It):stM D (l++m)=stM D l+stM D m:=by simp[stM]
theorem zFi(f:Arc→Nat)(p:Arc→Bool):∀l:List Arc,((l.filter p).map f).sum≤(l.map f).sum
 |[]=>by simp
 |a::l=>by
  have:=zFi f p l;rw[List.filter_cons]
  split<;>simp only[List.map_cons,List.sum_cons]<;>omega
theorem zUx{D:List (List En)}{b:List St}(hI:Fm.Inv D b){i:Nat}{s:St}(hi:b[i]?=some s)(xs:List Int)(d:Nat)(head:List Int)(wt:Int):stM D (push xs d head wt s.arcs)<wgt (D[i]?.getD []):=by
 obtain⟨h1,_,_⟩:=hI.row i s hi;have hne:=(hI.lv (exp D s) (List.mem_of_getElem? h1)).1;have hp:=List.length_pos_iff.2 hne;rw[h1,Option.getD_some,wgt_exp];have e:stM D (push xs d head wt s.arcs)=((s.arcs.reverse.filter (live xs d head)).map fun a=>wgt (D[a.to]?.getD [])).sum:=by
  unfold stM push;rw[List.map_map];rfl
 have h2:=zFi (fun a=>wgt (D[a.to]?.getD [])) (live xs d head) s.arcs.reverse;have h3:(s.arcs.reverse.map fun a=>wgt (D[a.to]?.getD [])).sum=(s.arcs.map fun a=>wgt (D[a.to]?.getD [])).sum:=by
  rw[List.map_reverse,List.sum_reverse]
 rw[h3]at h2;rw[e];omega
theorem zP7{D:List (List En)}(hlv:∀R∈D,R≠[]):∀{l:List It},(∀i∈l,i.to<D.length)→l.length≤(stE D l).length
 |[],_=>by simp
 |i::l,h=>by
  have ih:=zP7 hlv (l:=l) fun j hj=>h j (by simp[hj])
  have e:stE D (i::l)=stE D l++itE D i:=by simp[stE]
  have hi:=h i (by simp);have:1≤(itE D i).length:=by
   unfold itE;rw[zHt,List.getElem?_eq_getElem hi,Option.getD_some];exact List.length_pos_iff.2 (hlv _ (List.getElem_mem hi))
  rw[e,List.length_append,List.length_cons];omega
theorem zR1{t:List Int}{r:Int}(h1:allR t=true)(h2:allR [r]=true):zAv (t++[r])=zAv t++zAv [r]:=by
 have h3:allR (t++[r])=true:=by
  unfold allR at h1 h2 ⊢;rw[List.all_append,h1,h2];rfl
 unfold zAv;rw[if_pos h1,if_pos h2,if_pos h3,List.flatMap_append];unfold strOfNums;rw[List.map_append];apply ByteArray.ext;simp
theorem zL8(t:List Int):(zAv t).size≤4*t.length:=by
 unfold zAv
 split
 · have:=zLf t
   unfold strOfNums;show((t.flatMap wrI).map _).toArray.size≤_;rw[List.size_toArray,List.length_map];exact this
 · exact Nat.zero_le _
theorem zJy{α β:Type}{f g:α→Option β}:∀{l:List α},(∀x∈l,f x=g x)→l.filterMap f=l.filterMap g
 |[],_=>rfl
 |x::l,h=>by rw[List.filterMap_cons,List.filterMap_cons,h x (by simp),zJy (l:=l) fun y hy=>h y (by simp[hy])]
def zDd(xs:List Int)(d:Nat)(l:List Pr):List Mt:=l.filterMap fun p=>if lv (zC2 p).1 xs≤d then some (p.1,p.2,(lv (zC2 p).1 xs:Int))else none
theorem zWk{l:List Pr}(h:Wd l)(xs:List Int)(d:Nat):hits xs d (ents l)=zDd xs d l:=by
 unfold hits ents zDd;rw[List.filterMap_map];refine zJy fun p hp=>?_
 obtain⟨ys,hy,_⟩:=h p hp;simp only[Function.comp,hit];rw[zL6 ⟨ys,hy⟩];rfl
end Fz
