import Derived.Test.YtobjpljdgieklaaGreatDoorJ49
import Derived.Test.YtobjpljdgieklaaGreatDoorJ52
namespace Go.Proofs.YtobjpljdgieklaaGreatDoor
open Go.RowKit Go.Shelf Go.Lib Nums Fm Pk Pm Fz Ed Lv
set_option maxRecDepth 100000
namespace Di
structure Half(B:Nat)(W:World)(db lo hi wb:Nat)(v u:Value)(base over M:List Pr):Prop where
 dat:DictAt B W db lo hi wb v base over
 few:over.length≤32
 eq:zAc zAa base over=M
 ap:Ap db v u M
 row:PRow W u M
def Cross(db lo hi:Nat)(v u:Value)(M:List Pr)(cb:Nat)(v2:Value):Prop:=∀k,fpD cb v2 k→¬fpD db v k∧¬(lo≤k∧k<hi)∧(0<M.length→u.ownBlock≠some k)
structure TwoB(B:Nat)(W:World)(db:Nat)(u:Value)(M:List Pr)(cb:Nat)(u2:Value)(N:List Pr):Prop where
 ex:∃lo hi wb v base over lo2 hi2 wb2 v2 base2 over2,Half B W db lo hi wb v u base over M∧Half B W cb lo2 hi2 wb2 v2 u2 base2 over2 N∧Cross db lo hi v u M cb v2∧Cross cb lo2 hi2 v2 u2 N db v
theorem TwoB.swap{B:Nat}{W:World}{db cb:Nat}{u u2:Value}{M N:List Pr}(h:TwoB B W db u M cb u2 N):TwoB B W cb u2 N db u M:=by
 obtain⟨lo,hi,wb,v,base,over,lo2,hi2,wb2,v2,base2,over2,h1,h2,c1,c2⟩:=h.ex;exact⟨⟨lo2,hi2,wb2,v2,base2,over2,lo,hi,wb,v,base,over,h2,h1,c2,c1⟩⟩
theorem Half.below{B:Nat}{W W':World}{db lo hi wb:Nat}{v u:Value}{base over M:List Pr}(h:Half B W db lo hi wb v u base over M)(hb:Below W.heap.size W W'):Half B W' db lo hi wb v u base over M:=
 ⟨h.dat.below hb,h.few,h.eq,h.ap,h.row.below hb⟩
theorem TwoB.below{B:Nat}{W W':World}{db cb:Nat}{u u2:Value}{M N:List Pr}(h:TwoB B W db u M cb u2 N)(hb:Below W.heap.size W W'):TwoB B W' db u M cb u2 N:=by
 obtain⟨lo,hi,wb,v,base,over,lo2,hi2,wb2,v2,base2,over2,h1,h2,c1,c2⟩:=h.ex;exact⟨⟨lo,hi,wb,v,base,over,lo2,hi2,wb2,v2,base2,over2,h1.below hb,h2.below hb,c1,c2⟩⟩
theorem TwoB.left{B:Nat}{W:World}{db cb:Nat}{u u2:Value}{M N:List Pr}(h:TwoB B W db u M cb u2 N):BSt B W db u M:=by
 obtain⟨lo,hi,wb,v,base,over,lo2,hi2,wb2,v2,base2,over2,h1,h2,c1,c2⟩:=h.ex;exact⟨⟨lo,hi,wb,v,base,over,h1.dat,h1.few,h1.eq,h1.ap⟩,h1.row⟩
theorem two_step{B:Nat}{W w':World}{db lo hi wb cb lo2 hi2 wb2:Nat}{v u v2 u2 u':Value}{base over M base2 over2 N M':List Pr}(H1:Half B W db lo hi wb v u base over M)(H2:Half B W cb lo2 hi2 wb2 v2 u2 base2 over2 N)(C1:Cross db lo hi v u M cb v2)(C2:Cross cb lo2 hi2 v2 u2 N db v)(hd:DoSays B W w' db lo hi v u u' M'):TwoB B w' db u' M' cb u2 N:=by
 obtain⟨lo',hi',wb',v',b',o',k1,k2,k3,k4,k5,k6⟩:=hd.ex;refine⟨⟨lo',hi',wb',v',b',o',lo2,hi2,wb2,v2,base2,over2,⟨k1,k2,k3,k6,hd.row⟩,⟨H2.dat.keep (F:=fpD db v) hd.upd (fun k g=>(H1.dat.fp k g).1) (C1 cb (.inl rfl)).1 (fun k e=>(C1 k (.inr e)).1) (fun k a b g=>(C2 k g).2.1 ⟨a,b⟩),H2.few,H2.eq,H2.ap,zKx H2.row hd.upd (fun h0 k hk g=>(C2 k g).2.2 h0 hk)⟩,fun k hk=>?_,fun k hk=>?_⟩⟩
 · have hlt:=(H2.dat.fp k hk).2
   obtain⟨a,b,c⟩:=C1 k hk;refine⟨fun g=>?_,fun g=>?_,fun h0 e=>?_⟩
   · rcases g with g|g
     · exact a (.inl g)
     · rcases k4 with k4|k4
       · exact a (.inr (k4▸g))
       · have:=k4 k g;omega
   · rcases k5 with⟨e1,e2⟩|k5
     · exact b (by omega)
     · omega
   · rcases hd.new with e2|e2
     · have h3:=hd.row
       rw[e2]at e h3;exact c (by have:=zQk H1.row h3;omega) e
     · have:=e2 k e;omega
 · have:fpD db v k∨W.heap.size≤k:=by
    rcases hk with hk|hk
    · exact .inl (.inl hk)
    · rcases k4 with k4|k4
      · exact .inl (.inr (k4▸hk))
      · exact .inr (k4 k hk)
   rcases this with g|g
   · exact C2 k g
   · exact⟨fun f=>by have:=(H2.dat.fp k f).2;omega,fun f=>by have:=H2.dat.wk.1;omega,fun h0 e=>by have:=zGj H2.row h0 e;omega⟩
theorem zRh(B:Nat)(W1 W:World)(hb:Below W1.heap.size W1 W)(db:Nat)(u:Value)(M:List Pr)(cb:Nat)(u2:Value)(N:List Pr)(h:TwoB B W1 db u M cb u2 N)(o:Oo)(ho:o.2.1.size≤9223372036854775807):
 Calls Tryz.prog 15 #[.pointer (some ⟨db,0,none⟩),u,opV o] W fun e w'=>∃ad n cap,e = .returned (.tuple #[.slice ad n cap,.bool true])∧(∃M',TwoB B w' db (.slice ad n cap) M' cb u2 N)∧Below B W w'∧∀g,W1.heap.size≤g→g<W.heap.size→w'.heap[g]?=W.heap[g]?:=by
 obtain⟨lo,hi,wb,v,base,over,lo2,hi2,wb2,v2,base2,over2,h1,h2,c1,c2⟩:=h.ex;have H1:=h1.below hb;have H2:=h2.below hb;have he:=H1.eq;subst he;refine(zRi B W db lo hi wb v u base over H1.dat H1.few H1.row H1.ap o ho).mono ?_;rintro e w' ⟨ad,n,cap,rfl,hd⟩;exact⟨ad,n,cap,rfl,⟨_,two_step H1 H2 c1 c2 hd⟩,hd.upd.below H1.dat.size (fun k g=>(H1.dat.fp k g).1),fun g a b=>hd.upd.block g b (fun f=>by have:=(h1.dat.fp g f).2;omega)⟩
theorem zXl(B:Nat)(W:World)(db:Nat)(u:Value)(M:List Pr)(h:BSt B W db u M):
 Calls Tryz.prog 32 #[.pointer (some ⟨db,0,none⟩)] W fun e w'=>∃cb,e = .returned (.pointer (some ⟨cb,0,none⟩))∧TwoB B w' db u M cb u M∧Below W.heap.size W w':=by
 obtain⟨lo,hi,wb,v,base,over,h1,h2,h3,h4⟩:=h.ex;have hr:=h.row;refine(zTp B W db lo hi wb v base over h1).mono ?_;rintro e w' ⟨cb,rfl,hc⟩;obtain⟨wb2,v2,k1,k2⟩:=hc.ex;have hl:=hc.lo;have hnew:∀k,fpD cb v2 k→W.heap.size≤k:=fun k hk=>by
  rcases hk with hk|hk
  · omega
  · exact k2 k hk
 refine⟨cb,rfl,⟨⟨lo,hi,wb,v,base,over,lo,hi,wb2,v2,base,over,⟨h1.below hc.bel,h2,h3,h4,hr.below hc.bel⟩,⟨k1,h2,h3,fun h0 k hk f=>?_,hr.below hc.bel⟩,fun k hk=>?_,fun k hk=>?_⟩⟩,hc.bel⟩
 · have h5:=hnew k f
   have:=zGj hr h0 hk;omega
 · have h5:=hnew k hk
   exact⟨fun f=>by have:=(h1.fp k f).2;omega,fun f=>by have:=h1.wk.1;omega,fun h0 e=>by have:=zGj hr h0 e;omega⟩
 · have h5:=(h1.fp k hk).2
   refine⟨fun f=>by have:=hnew k f;omega,fun f=>?_,fun h0 e=>h4 h0 k e hk⟩;rcases hk with hk|hk
   · subst hk;exact h1.nw f
   · exact h1.nv k hk f
