import Derived.Test.YtobjpljdgieklaaGreatDoorJ11
import Derived.Test.YtobjpljdgieklaaGreatDoorJ8
import Derived.Test.YtobjpljdgieklaaGreatDoorJ7
import Derived.Test.YtobjpljdgieklaaGreatDoorJ14
import Derived.Deep.QuietTactic
import Derived.BigQuiet
import Derived.Laws.StructEq
import Derived.Below
import Derived.Carry
import Derived.Deep.Cut
import Derived.Handy
import Derived.WalkSmall
import Derived.Shelf.SlSortCmp.KitK
set_option maxRecDepth 100000
namespace Go.Proofs.YtobjpljdgieklaaGreatDoor
section
open Go.RowKit Go.Lib Nums Pm
namespace Bt
def cellsM(m:Mt):List Value:=[.string m.1,.int .i64 m.2.1,.int .i64 m.2.2]
def valM(m:Mt):Value := .agg #[.string m.1,.int .i64 m.2.1,.int .i64 m.2.2]
theorem rtyM:RTy 74 50 3 32:=⟨by kernel_rfl,⟨.agg #[.string .empty,.int .i64 0,.int .i64 0],by kernel_rfl,rfl⟩,by decide,by decide⟩
theorem rtyMp:RTy 74 193 3 32:=⟨by kernel_rfl,⟨.agg #[.string .empty,.int .i64 0,.int .i64 0],by kernel_rfl,rfl⟩,by decide,by decide⟩
theorem cellsM_ok(m:Mt):zG2 3 (cellsM m):=⟨rfl,by intro u hu;simp[cellsM]at hu;rcases hu with rfl|rfl|rfl<;>rfl⟩
theorem belowN{B:Nat}{a w:World}(h:Below B a w)(n:Nat):Below B a (w.drewN n):=⟨h.os,h.tape,h.output,h.size,h.block⟩
theorem zC4(w:World)(o o':Obj):Below w.heap.size w ((w.alloc o).alloc o'):=((Below.refl _ w).alloc (Nat.le_refl _) o).alloc (by simp) o'
def SmM(m:Mt):Prop:=m.1.size≤9223372036854775807
set_option maxHeartbeats 1000000 in
theorem zKe(a b:Mt)(w:World):Calls Tryz.prog 126 #[valM a,valM b] w fun e w'=>e = .returned (.bool (btr a b))∧Below w.heap.size w w':=by
 have HL:=fun W=>zDb a.1 b.1 W
 have HC:Hid (btr a b=if a.2.2=b.2.2 then (if a.2.1=b.2.1 then zAa a.1 b.1 else decide (b.2.1<a.2.1))else decide (a.2.2<b.2.2)):=rfl;by_cases h1:a.2.2=b.2.2
 · have hn1:(a.2.2 != b.2.2)=false:=by simpa using h1
   by_cases h2:a.2.1=b.2.1
   · have hn2:(a.2.1 != b.2.1)=false:=by simpa using h2
     rw[if_pos h1,if_pos h2]at HC;clear h1 h2;unfold valM;go_enter Tryz.func126,Tryz.ntmps126;go_wp2_with (go_at_call 100;refine(HL _).mono ?_;rintro e w' ⟨rfl,rfl⟩);go_ret;exact⟨by rw[HC.out];rfl,zC4 _ _ _⟩
   · have hn2:(a.2.1 != b.2.1)=true:=by simpa using h2
     rw[if_pos h1,if_neg h2]at HC;clear h1 h2;unfold valM;go_enter Tryz.func126,Tryz.ntmps126;go_wp2;go_ret;exact⟨by rw[HC.out];rfl,zC4 _ _ _⟩
 · have hn1:(a.2.2 != b.2.2)=true:=by simpa using h1
   rw[if_neg h1]at HC;clear h1;unfold valM;go_enter Tryz.func126,Tryz.ntmps126;go_wp2;go_ret;exact⟨by rw[HC.out];rfl,zC4 _ _ _⟩
set_option maxHeartbeats 1000000 in
theorem zKx(a b:Mt)(w:World)(ha:SmM a)(hb:SmM b):Calls Tryz.prog 88 #[valM a,valM b] w fun e w'=>e = .returned (.bool (btr a b))∧Below w.heap.size w w':=by
 have HL:=fun W=>zIp a.1 b.1 W ha hb
 have HC:Hid (btr a b=if a.2.2=b.2.2 then (if a.2.1=b.2.1 then zAa a.1 b.1 else decide (b.2.1<a.2.1))else decide (a.2.2<b.2.2)):=rfl;clear ha hb;by_cases h1:a.2.2=b.2.2
 · have hn1:(a.2.2 != b.2.2)=false:=by simpa using h1
   by_cases h2:a.2.1=b.2.1
   · have hn2:(a.2.1 != b.2.1)=false:=by simpa using h2
     rw[if_pos h1,if_pos h2]at HC;clear h1 h2;unfold valM;go_enter Tryz.func88,Tryz.ntmps88;go_wp2_with (go_at_call 43;refine(HL _).mono ?_;rintro e w' ⟨rfl,q,rfl⟩);go_ret;exact⟨by rw[HC.out];rfl,belowN (zC4 _ _ _) _⟩
   · have hn2:(a.2.1 != b.2.1)=true:=by simpa using h2
     rw[if_pos h1,if_neg h2]at HC;clear h1 h2;unfold valM;go_enter Tryz.func88,Tryz.ntmps88;go_wp2;go_ret;exact⟨by rw[HC.out];rfl,zC4 _ _ _⟩
 · have hn1:(a.2.2 != b.2.2)=true:=by simpa using h1
   rw[if_neg h1]at HC;clear h1;unfold valM;go_enter Tryz.func88,Tryz.ntmps88;go_wp2;go_ret;exact⟨by rw[HC.out];rfl,zC4 _ _ _⟩
def zFj(P:Program)(x:Value)(w:World):Result Value:=(Instr.loadAt 74 x).run P w
def zC7(P:Program)(x y:Value)(w:World):Result Unit:=(Instr.storeAt 74 x y).run P w
section
variable (ρ:Operand→Value) (x y:Operand) (dst:Option Tmp) (ty:TypeId) (pos:String) (af:Array Edge) (g:Option (Nat×Bool)) (w:World)
theorem zB4:(execOp ρ ⟨dst,.load 74 x,ty,pos,af,g⟩).run Tryz.prog w=(zFj Tryz.prog (ρ x) w).andThen (fun v w' => .ok (.value v) w'):=by
 simp only[execOp,Sem.run_bind,zFj,Sem.run_pure]
theorem zBs:(execOp ρ ⟨dst,.store 74 x y,ty,pos,af,g⟩).run Tryz.prog w=(zC7 Tryz.prog (ρ x) (ρ y) w).andThen (fun _ w' => .ok .skip w'):=by
 simp only[execOp,Sem.run_bind,zC7,Sem.run_pure]
end
theorem zDo{w:World}{b o:Nat}{x:Mt}(h0:w.cell? ⟨b,o,none⟩=some (.string x.1))(h1:w.cell? ⟨b,o+1,none⟩=some (.int .i64 x.2.1))(h2:w.cell? ⟨b,o+2,none⟩=some (.int .i64 x.2.2)):zFj Tryz.prog (.pointer (some ⟨b,o,none⟩)) w = .ok (valM x) w:=by
 unfold zFj valM;simp[go_sem,h0,h1,h2];try rfl
theorem zC6{w:World}{b o:Nat}{x:Mt}{u v z:Value}(h0:w.cell? ⟨b,o,none⟩=some u)(h1:w.cell? ⟨b,o+1,none⟩=some v)(h2:w.cell? ⟨b,o+2,none⟩=some z)(f0:w.frozen? ⟨b,o,none⟩=false)(f1:w.frozen? ⟨b,o+1,none⟩=false)(f2:w.frozen? ⟨b,o+2,none⟩=false):zC7 Tryz.prog (.pointer (some ⟨b,o,none⟩)) (valM x) w = .ok () (w.setCells b o (cellsM x)):=by
 unfold zC7 valM;simp[go_sem,h0,h1,h2,f0,f1,f2,cellsM,World.setCells];try rfl
structure Upd(F:Nat→Prop)(w w':World):Prop where
 os:w'.os=w.os
 tape:w'.tape=w.tape
 output:w'.output=w.output
 size:w.heap.size≤w'.heap.size
 block:∀k,k<w.heap.size→¬F k→w'.heap[k]?=w.heap[k]?
theorem Upd.refl(F:Nat→Prop)(w:World):Upd F w w:=⟨rfl,rfl,rfl,Nat.le_refl _,fun _ _ _=>rfl⟩
theorem Upd.trans{F G:Nat→Prop}{a b c:World}(h1:Upd F a b)(h2:Upd G b c)(hG:∀k,k<a.heap.size→G k→F k):Upd F a c:=
 ⟨h2.os.trans h1.os,h2.tape.trans h1.tape,h2.output.trans h1.output,Nat.le_trans h1.size h2.size,fun k hk hF=>(h2.block k (Nat.lt_of_lt_of_le hk h1.size) (fun g=>hF (hG k hk g))).trans (h1.block k hk hF)⟩
theorem Upd.mono{F G:Nat→Prop}{a b:World}(h:Upd F a b)(hG:∀k,F k→G k):Upd G a b:=⟨h.os,h.tape,h.output,h.size,fun k hk hF=>h.block k hk (fun f=>hF (hG k f))⟩
theorem Upd.below{F:Nat→Prop}{w w':World}(h:Upd F w w'){B:Nat}(hF:∀k,F k→B≤k)(hB:B≤w.heap.size):Below B w w':=
 ⟨h.os,h.tape,h.output,h.size,fun k hk=>h.block k (by omega) (fun f=>by have:=hF k f;omega)⟩
theorem zAi{F:Nat→Prop}{w w':World}(h:Below w.heap.size w w'):Upd F w w':=⟨h.os,h.tape,h.output,h.size,fun k hk _=>h.block k hk⟩
theorem Upd.drew{F:Nat→Prop}{w w':World}(h:Upd F w w'):Upd F w w'.drew:=⟨h.os,h.tape,h.output,h.size,h.block⟩
theorem Upd.setCell{F:Nat→Prop}{w w':World}(h:Upd F w w'){a:Addr}(ha:F a.block)(u:Value):Upd F w (w'.setCell a u):=
 h.trans (G:=F) ⟨rfl,rfl,rfl,by simp[World.setCell],fun k _ hk=>Below.heap_setCell _ _ _ _ (fun e=>hk (e▸ha))⟩ (fun _ _ h=>h)
theorem Upd.setCells{F:Nat→Prop}{w:World}{g:Nat}(hg:F g):∀(vs:List Value) (o:Nat) {w':World},Upd F w w'→Upd F w (w'.setCells g o vs)
 |[],_,_,h=>h
 |v::r,o,_,h=>Upd.setCells hg r (o+1) (h.setCell (a:=⟨g,o,none⟩) hg v)
theorem Upd.grown{F:Nat→Prop}{w w' w'':World}{row:Option Nat}(h:Upd F w w')(hg:w'.grownBy w'' row)(hr:∀k,k<w.heap.size→row=some k→F k):Upd F w w'':=
 h.trans (G:=fun k=>row=some k) ⟨hg.os,hg.tape,hg.output,hg.size,fun k hk hk2=>hg.block k hk (fun e=>hk2 e.symm)⟩ hr
def setM:List Value→Nat→List Value→List Value
 |xs,_,[]=>xs
 |xs,o,v::r=>setM (xs.set o v) (o+1) r
theorem zFh{base g n cap size:Nat}{e:TypeId}:∀(vs:List Value) (o:Nat) (w:World) (xs:List Value),w.ownsRow base e size (.slice (some ⟨g,0,none⟩) n cap) n xs→(w.setCells g o vs).ownsRow base e size (.slice (some ⟨g,0,none⟩) n cap) n (setM xs o vs)
 |[],_,_,_,h=>h
 |v::r,o,_,_,h=>zFh r (o+1) _ _ (h.stored o v).1
theorem zJk(A:List Value):∀(x y R:List Value),x.length=y.length→setM (A++(y++R)) A.length x=A++(x++R)
 |[],[],_,_=>rfl
 |v::r,u::s,R,h=>by
  have:=zJk (A++[v]) r s R (by simpa using h);rw[setM];simp only[List.length_append,List.length_cons,List.length_nil,Nat.zero_add,List.append_assoc,List.singleton_append]at this;rw[show(A++(u::s++R)).set A.length v=A++v::(s++R)by simp,this];rfl
termination_by x=>x.length
theorem zMk{k:Nat}(A:List Value):∀(xss:List (List Value)) (i:Nat) (x:List Value),(∀y∈xss,y.length=k)→x.length=k→i<xss.length→setM (A++xss.flatten) (A.length+i*k) x=A++(xss.set i x).flatten
 |y::r,0,x,hk,hx,_=>by
  rw[Nat.zero_mul,Nat.add_zero,List.flatten_cons,zJk A x y _ (by rw[hx,hk y (by simp)])];simp
 |y::r,i+1,x,hk,hx,hi=>by
  have:=zMk (A++y) r i x (fun z hz=>hk z (by simp[hz])) hx (by simpa using hi);rw[List.length_append,hk y (by simp)]at this;rw[List.flatten_cons,←List.append_assoc,show A.length+(i+1)*k=A.length+k+i*k by rw[Nat.add_mul];omega,this];simp
theorem GOwn.put{T:TypeId}{k B g n cap:Nat}{w:World}{xss:List (List Value)}(h:GOwn T k B w (.slice (some ⟨g,0,none⟩) n cap) xss)(hn:n=xss.length)(i:Nat)(hi:i<xss.length)(x:List Value)(hx:zG2 k x):GOwn T k B (w.setCells g (i*k) x) (.slice (some ⟨g,0,none⟩) n cap) (xss.set i x):=by
 subst hn;refine⟨fun y hy=>?_,?_⟩
 · rcases List.mem_or_eq_of_mem_set hy with hy|rfl
   · exact h.1 y hy
   · exact hx
 · have h1:=zFh x (i*k) w _ h.2
   have h2:=zMk (k:=k) [] xss i x (fun y hy=>(h.1 y hy).1) hx.1 hi;simp only[List.nil_append,List.length_nil,Nat.zero_add]at h2;rw[h2]at h1;rw[List.length_set];exact h1
theorem GOwn.upd{T:TypeId}{k B:Nat}{w w':World}{v:Value}{xss:List (List Value)}{F:Nat→Prop}(h:GOwn T k B w v xss)(u:Upd F w w')(hF:∀g,v.ownBlock=some g→¬F g):GOwn T k B w' v xss:=
 h.same fun g hg=>u.block g (h.lt hg) (hF g hg)
theorem GOwn.mt{B:Nat}{w:World}{v:Value}{h:List Mt}(H:GOwn 74 3 B w v (h.map cellsM))(h0:0<h.length):∃g cap,v = .slice (some ⟨g,0,none⟩) h.length cap∧g<w.heap.size∧B≤g∧h.length≤cap∧∀i,i<h.length→w.cell? ⟨g,i*3,none⟩=some (.string (el h i).1)∧w.cell? ⟨g,i*3+1,none⟩=some (.int .i64 (el h i).2.1)∧w.cell? ⟨g,i*3+2,none⟩=some (.int .i64 (el h i).2.2)∧w.frozen? ⟨g,i*3,none⟩=false∧w.frozen? ⟨g,i*3+1,none⟩=false∧w.frozen? ⟨g,i*3+2,none⟩=false:=by
 obtain⟨g,cap,hv,h1,h2,h3,h4⟩:=H.cell (by rw[List.length_map];exact h0);rw[List.length_map]at hv h3;refine⟨g,cap,hv,h1,h2,h3,fun i hi=>?_⟩;have e:(h.map cellsM)[i]?=some (cellsM (el h i)):=by rw[List.getElem?_map,zWm hi];rfl
 have hf:∀j,w.frozen? ⟨g,j,none⟩=false:=fun j=>by
  have:=H.2;rw[hv,List.length_map]at this;exact this.frozenAt j
 exact⟨h4 i 0 _ _ e rfl,h4 i 1 _ _ e rfl,h4 i 2 _ _ e rfl,hf _,hf _,hf _⟩
theorem map_set(h:List Mt)(i:Nat)(x:Mt):(h.set i x).map cellsM=(h.map cellsM).set i (cellsM x):=List.map_set ..
theorem zH2:Tryz.prog.follows .mixedOrders=true:=by kernel_rfl
end Bt
end
section
open Go.RowKit Go.Lib Nums Pm
namespace Bt
theorem zLx(w:World)(ad:Option Addr)(n cap:Nat):Calls Tryz.prog 160 #[.slice ad n cap] w fun e w'=>e = .returned (.int .i64 n)∧w'=w:=by
 go_enter Tryz.func160,Tryz.ntmps160;go_wp2;go_ret;exact⟨rfl,rfl⟩
structure S2(g a b:Nat)(x y:Mt)(W:World):Prop where
 a0:W.cell? ⟨g,a,none⟩=some (.string x.1)
 a1:W.cell? ⟨g,a+1,none⟩=some (.int .i64 x.2.1)
 a2:W.cell? ⟨g,a+2,none⟩=some (.int .i64 x.2.2)
 b0:W.cell? ⟨g,b,none⟩=some (.string y.1)
 b1:W.cell? ⟨g,b+1,none⟩=some (.int .i64 y.2.1)
 b2:W.cell? ⟨g,b+2,none⟩=some (.int .i64 y.2.2)
theorem S2.facts{g a b:Nat}{x y:Mt}{W:World}(h:S2 g a b x y W):W.cell? ⟨g,a,none⟩=some (.string x.1)∧W.cell? ⟨g,a+1,none⟩=some (.int .i64 x.2.1)∧W.cell? ⟨g,a+2,none⟩=some (.int .i64 x.2.2)∧W.cell? ⟨g,b,none⟩=some (.string y.1)∧W.cell? ⟨g,b+1,none⟩=some (.int .i64 y.2.1)∧W.cell? ⟨g,b+2,none⟩=some (.int .i64 y.2.2):=⟨h.a0,h.a1,h.a2,h.b0,h.b1,h.b2⟩
theorem S2.below{g a b:Nat}{x y:Mt}{W W':World}(h:S2 g a b x y W)(hg:g<W.heap.size)(hb:Below W.heap.size W W'):S2 g a b x y W':=
 ⟨(hb.cell (p:=⟨g,a,none⟩) hg).trans h.a0,(hb.cell (p:=⟨g,a+1,none⟩) hg).trans h.a1,(hb.cell (p:=⟨g,a+2,none⟩) hg).trans h.a2,(hb.cell (p:=⟨g,b,none⟩) hg).trans h.b0,(hb.cell (p:=⟨g,b+1,none⟩) hg).trans h.b1,(hb.cell (p:=⟨g,b+2,none⟩) hg).trans h.b2⟩
set_option maxHeartbeats 1000000 in
theorem zF6(B:Nat)(w:World)(v:Value)(h:List Mt)(H:GOwn 74 3 B w v (h.map cellsM))(i j:Nat)(hi:i<h.length)(hj:j<h.length)(hl:h.length<4611686018427387904):
 Calls Tryz.prog 220 #[v,.int .i64 i,.int .i64 j] w fun e w'=>e = .returned (.bool (btr (el h j) (el h i)))∧Below w.heap.size w w':=by
 obtain⟨g,cap,rfl,hg,_,hcap,hc⟩:=GOwn.mt H (by omega);obtain⟨i0,i1,i2,_⟩:=hc i hi;obtain⟨j0,j1,j2,_⟩:=hc j hj;have hS0:S2 g (j*3) (i*3) (el h j) (el h i) w.drew:=⟨j0,j1,j2,i0,i1,i2⟩;have HB:=fun W=>zKe (el h j) (el h i) W
 have hiz:(i:Int)<(h.length:Int):=by omega
 have hjz:(j:Int)<(h.length:Int):=by omega
 generalize el h j=y at HB hS0 ⊢;generalize el h i=x at HB hS0 ⊢;generalize h.length=n at hiz hjz hcap hl ⊢;clear H hc i0 i1 i2 j0 j1 j2 hi hj;go_enter Tryz.func220,Tryz.ntmps220;go_wp2_with fail;refine zAe (S:=S2 g (j*3) (i*3) y x) 10 rfl zH2 hS0 (fun _=>?_);refine tq4 S2.facts 0 7 1 8 2 9 3 10 ?_;simp only[sZa,sZb,sZc];refine tq4 S2.facts 4 11 5 12 6 13 7 14 ?_;simp only[sZa,sZb,sZc];refine zAh (i:=8) (w0:=w.drew) 15 126 #[valM y,valM x] (by kernel_rfl) rfl rfl (by rfl) (by kernel_rfl) ((HB w.drew).mono ?_);rintro e w1 ⟨rfl,hb⟩;have hS1:S2 g (j*3) (i*3) y x w1:=hS0.below hg hb;refine⟨_,rfl,hS1,fun _=>?_⟩;simp only[sZa,sZb,sZc];refine zAp (i:=9) (v := .bool (btr y x)) (w':=w1) 6 (by kernel_rfl) rfl rfl (by rfl) (by kernel_rfl) hS1 (fun _=>?_);simp only[sZa,sZb,sZc];refine wpAnyH_done (by kernel_rfl) ?_ _;go_wp2;go_ret;exact⟨rfl,(Below.refl _ w).drew.trans hb⟩
attribute [local go_sem ↓] zB4 zBs
set_option maxHeartbeats 2000000 in
theorem zF3(B:Nat)(w:World)(v:Value)(h:List Mt)(H:GOwn 74 3 B w v (h.map cellsM))(i j:Nat)(hi:i<h.length)(hj:j<h.length)(hl:h.length<4611686018427387904):
 Calls Tryz.prog 221 #[v,.int .i64 i,.int .i64 j] w fun e w'=>e = .returned (.tuple #[])∧GOwn 74 3 B w' v ((swp h i j).map cellsM)∧Upd (fun k=>v.ownBlock=some k) w w':=by
 obtain⟨g,cap,rfl,hg,_,hcap,hc⟩:=GOwn.mt H (by omega);obtain⟨i0,i1,i2,f0,f1,f2⟩:=hc i hi;obtain⟨j0,j1,j2,_⟩:=hc j hj;have hiz:(i:Int)<(h.length:Int):=by omega
 have hjz:(j:Int)<(h.length:Int):=by omega
 have H1:GOwn 74 3 B (w.drew.setCells g (i*3) (cellsM (el h j))) (.slice (some ⟨g,0,none⟩) h.length cap) ((h.set i (el h j)).map cellsM):=by
  rw[map_set];exact GOwn.put (w:=w.drew) H (by simp) i (by simpa using hi) _ (cellsM_ok _)
 have H2:GOwn 74 3 B ((w.drew.setCells g (i*3) (cellsM (el h j))).setCells g (j*3) (cellsM (el h i))) (.slice (some ⟨g,0,none⟩) h.length cap) ((swp h i j).map cellsM):=by
  unfold swp;rw[map_set];exact GOwn.put H1 (by simp) j (by simpa using hj) _ (cellsM_ok _)
 have HU:Upd (fun k=>(Value.slice (some ⟨g,0,none⟩) h.length cap).ownBlock=some k) w ((w.drew.setCells g (i*3) (cellsM (el h j))).setCells g (j*3) (cellsM (el h i))):=Upd.setCells (F:=fun k=>(Value.slice (some ⟨g,0,none⟩) h.length cap).ownBlock=some k) (g:=g) rfl _ _ (Upd.setCells (F:=fun k=>(Value.slice (some ⟨g,0,none⟩) h.length cap).ownBlock=some k) (g:=g) rfl _ _ (Upd.refl _ w).drew);have li:zFj Tryz.prog (.pointer (some ⟨g,i*3,none⟩)) w.drew = .ok (valM (el h i)) w.drew:=zDo i0 i1 i2;have lj:zFj Tryz.prog (.pointer (some ⟨g,j*3,none⟩)) w.drew = .ok (valM (el h j)) w.drew:=zDo j0 j1 j2;have si:zC7 Tryz.prog (.pointer (some ⟨g,i*3,none⟩)) (valM (el h j)) w.drew = .ok () (w.drew.setCells g (i*3) (cellsM (el h j))):=zC6 i0 i1 i2 f0 f1 f2;have sj:zC7 Tryz.prog (.pointer (some ⟨g,j*3,none⟩)) (valM (el h i)) (w.drew.setCells g (i*3) (cellsM (el h j))) = .ok () ((w.drew.setCells g (i*3) (cellsM (el h j))).setCells g (j*3) (cellsM (el h i))):=by
  obtain⟨g',cap',hv,_,_,_,hc'⟩:=GOwn.mt H1 (by simp;omega);simp only[Value.slice.injEq,Option.some.injEq,Addr.mk.injEq,and_true]at hv;obtain⟨rfl,_,_⟩:=hv;obtain⟨k0,k1,k2,e0,e1,e2⟩:=hc' j (by simpa using hj);exact zC6 k0 k1 k2 e0 e1 e2
 have mixed:=zH2;have HG:Hid (GOwn 74 3 B ((w.drew.setCells g (i*3) (cellsM (el h j))).setCells g (j*3) (cellsM (el h i))) (.slice (some ⟨g,0,none⟩) h.length cap) ((swp h i j).map cellsM)):=H2;have HUU:Hid (Upd (fun k=>(Value.slice (some ⟨g,0,none⟩) h.length cap).ownBlock=some k) w ((w.drew.setCells g (i*3) (cellsM (el h j))).setCells g (j*3) (cellsM (el h i)))):=HU;generalize (swp h i j).map cellsM=hs at HG ⊢;generalize el h j=y at lj si sj HG HUU;generalize el h i=x at li sj HG HUU;generalize h.length=n at hiz hjz hcap hl HG HUU ⊢;clear H hc i0 i1 i2 j0 j1 j2 hi hj H1 H2 HU f0 f1 f2;go_enter Tryz.func221,Tryz.ntmps221;go_wp2_with fail
 go_big_region_o
 go_wp2;go_returns;exact⟨rfl,HG.out,HUU.out⟩
end Bt
end
section
open Go.RowKit Go.Lib Nums Pm
namespace Bt
structure KAt(B:Nat)(w:World)(p:Nat)(room:Int)(v:Value)(h:List Mt):Prop where
 low:B≤p
 lt:p<w.heap.size
 c0:w.cell? ⟨p,0,none⟩=some (.int .i64 room)
 c1:w.cell? ⟨p,1,none⟩=some v
 f1:w.frozen? ⟨p,1,none⟩=false
 row:GOwn 74 3 B w v (h.map cellsM)
 ap:v.ownBlock≠some p
def KF(p:Nat)(v:Value)(k:Nat):Prop:=k=p∨v.ownBlock=some k
theorem KAt.form{B:Nat}{w:World}{p:Nat}{room:Int}{v:Value}{h:List Mt}(K:KAt B w p room v h):∃ad cap,v = .slice ad h.length cap:=by
 obtain⟨ad,cap,e,_⟩:=K.row.shape;exact⟨ad,cap,by rw[e,List.length_map]⟩
theorem KAt.upd{B:Nat}{w w':World}{p:Nat}{room:Int}{v:Value}{h:List Mt}{F:Nat→Prop}(K:KAt B w p room v h)(u:Upd F w w')(hF:∀k,KF p v k→¬F k):KAt B w' p room v h:=by
 have hp:=u.block p K.lt (hF p (.inl rfl));exact⟨K.low,Nat.lt_of_lt_of_le K.lt u.size,(World.cell?_of_block (w:=w) hp).trans K.c0,(World.cell?_of_block (w:=w) hp).trans K.c1,(World.frozen?_of_block (w:=w) hp).trans K.f1,GOwn.upd K.row u (fun g hg=>hF g (.inr hg)),K.ap⟩
theorem KAt.below{B:Nat}{w w':World}{p:Nat}{room:Int}{v:Value}{h:List Mt}(K:KAt B w p room v h)(hb:Below w.heap.size w w'):KAt B w' p room v h:=
 K.upd (F:=fun _=>False) (zAi hb) (fun _ _ h=>h)
theorem KF.low{B:Nat}{w:World}{p:Nat}{room:Int}{v:Value}{h:List Mt}(K:KAt B w p room v h){k:Nat}(hk:KF p v k):B≤k:=by
 rcases hk with rfl|hk
 · exact K.low
 · exact(K.row.block hk).1
theorem KAt.lay{B:Nat}{w w':World}{p:Nat}{room:Int}{v v':Value}{h h':List Mt}{F:Nat→Prop}(K:KAt B w p room v h)(u:Upd F w w')(hF:¬F p)(ho:GOwn 74 3 B w' v' (h'.map cellsM))(ha:v'.ownBlock≠some p):KAt B (w'.setCell ⟨p,1,none⟩ v') p room v' h':=by
 have hp:=u.block p K.lt hF;have hlt:=Nat.lt_of_lt_of_le K.lt u.size;have c0:=(World.cell?_of_block (w:=w) (w':=w') (a:=⟨p,0,none⟩) hp).trans K.c0;have c1:=(World.cell?_of_block (w:=w) (w':=w') (a:=⟨p,1,none⟩) hp).trans K.c1;have f1:=(World.frozen?_of_block (w:=w) (w':=w') (a:=⟨p,1,none⟩) hp).trans K.f1;refine⟨K.low,by simpa[World.setCell]using hlt,?_,?_,?_,?_,ha⟩
 · have:=World.cell?_setCells_out p [v'] 1 w' ⟨p,0,none⟩ (fun _ _ => .inl (by simp))
   exact this.trans c0
 · exact World.cell?_setCell_same _ _ _ c1
 · exact(World.frozen?_setCells p [v'] 1 w' ⟨p,1,none⟩).trans f1
 · exact ho.same fun g hg=>Below.heap_setCell _ _ _ _ (fun e=>ha (by rw[show p=g from e.symm];exact hg))
theorem GOwn.cut{T:TypeId}{k B g n cap:Nat}{w:World}{xss:List (List Value)}(h:GOwn T k B w (.slice (some ⟨g,0,none⟩) n cap) xss)(m:Nat)(hn:n=xss.length)(hm:m≤n):GOwn T k B w (.slice (some ⟨g,0,none⟩) m cap) (xss.take m):=by
 subst hn;have hfl:∀(xs:List (List Value)) (m:Nat),(∀y∈xs,y.length=k)→(xs.take m).flatten=xs.flatten.take (m*k):=by
  intro xs
  induction xs with
  |nil=>intro m _;simp
  |cons y r ih=>
   intro m hk;cases m with
   |zero=>simp
   |succ m=>
    rw[List.take_succ_cons,List.flatten_cons,List.flatten_cons,ih m (fun z hz=>hk z (by simp[hz])),List.take_append,hk y (by simp),List.take_of_length_le (l:=y) (by rw[hk y (by simp),Nat.add_mul];omega),show(m+1)*k-k=m*k by rw[Nat.add_mul];omega]
 obtain⟨h0,hl,⟨e,_⟩|⟨g',cap',cur,e,h1,hg,h2,h3,h4,h5⟩⟩:=h
 · cases e
 · simp only[Value.slice.injEq,Option.some.injEq,Addr.mk.injEq,and_true,true_and]at e
   obtain⟨rfl,rfl⟩:=e;(have hlen:(xss.take m).length=m:=by rw[List.length_take];omega);refine⟨fun y hy=>h0 y (List.mem_of_mem_take hy),?_,.inr ⟨g,cap,cur,by rw[hlen],h1,hg,by rw[hlen];omega,h3,h4,?_⟩⟩
   · rw[hfl xss m (fun y hy=>(h0 y hy).1),List.length_take,hl,hlen]
     exact Nat.min_eq_left (Nat.mul_le_mul_right _ hm)
   · rw[hlen,hfl xss m (fun y hy=>(h0 y hy).1),←h5,List.take_take,Nat.min_eq_left (Nat.mul_le_mul_right _ hm)]
theorem zWk{P:Program}{ρ:Operand→Value}{x y:Operand}{t:TypeId}{dst:Option Tmp}{ty:TypeId}{pos:String}{af:Array Edge}{g:Option (Nat×Bool)}{w w':World}{v:Value}(h:(Builtin.append_ #[t,t] ty #[ρ x,ρ y]).run P w = .ok v w'):
 (execOp ρ ⟨dst,.call { callee := .builtin .append,args:=#[x,y],argTypes:=#[t,t] },ty,pos,af,g⟩).run P w = .ok (.value v) w':=by
 unfold execOp;simp only[resolve,invoke,builtin,Sem.run_bind,Sem.run_pure,Result.andThen_ok,List.map_toArray,List.map_cons,List.map_nil,h]
theorem zHs(w:World)(x:Value)(t:TypeId):(Instr.typeAssert (.iface 74 x) t 74 false).run Tryz.prog w = .ok x w:=by kernel_rfl
theorem zBt(w:World)(o:Obj):(w.alloc o).heap[w.heap.size]?=some o:=by show(w.heap.push o)[w.heap.size]?=_;simp
set_option maxHeartbeats 1000000 in
theorem zXx(B:Nat)(w:World)(p:Nat)(room:Int)(v:Value)(h:List Mt)(m:Mt)(K:KAt B w p room v h)(hl:h.length<1099511627776):
 Calls Tryz.prog 223 #[.pointer (some ⟨p,1,none⟩),.iface 74 (valM m)] w fun e w'=>e = .returned (.tuple #[])∧∃v',KAt B w' p room v' (h++[m])∧Upd (KF p v) w w'∧(v'.ownBlock=v.ownBlock∨∃g,v'.ownBlock=some g∧w.heap.size≤g):=by
 obtain⟨ad,cap,rfl⟩:=K.form;obtain⟨V3,hV3⟩:∃V3,w.drew=V3:=⟨_,rfl⟩;have hb3:Below w.heap.size w V3:=by rw[←hV3];exact(Below.refl _ w).drew
 have hz3:V3.heap.size=w.heap.size:=by rw[←hV3];rfl
 obtain⟨V4,hV4⟩:∃V4,V3.alloc (.cells #[.string m.1,.int .i64 m.2.1,.int .i64 m.2.2] 74)=V4:=⟨_,rfl⟩;have hb34:Below V3.heap.size V3 V4:=by rw[←hV4];exact(Below.refl _ V3).alloc (Nat.le_refl _) _
 have hb4:Below w.heap.size w V4:=hb3.trans (hb34.mono hb3.size);have hn4:V4.heap[V3.heap.size]?=some (.cells #[.string m.1,.int .i64 m.2.1,.int .i64 m.2.2] 74):=by rw[←hV4];exact zBt _ _
 have hBV:B≤V4.heap.size:=by have h1:=K.low;have h2:=K.lt;have h3:=hb4.size;omega
 obtain⟨v',W',hap,ho',hgr,hob⟩:=zA9 rtyMp (GOwn.below K.row hb4) hBV (cellsM_ok m) (nb:=V3.heap.size) (fun i u hi=>by simp only[World.cell?,hn4];simpa[cellsM]using hi) (by rw[List.length_map];omega) 193 1;obtain⟨vd2,vn2,vc2,hvv2⟩:∃vd vn vc,v' = .slice vd vn vc:=by
  obtain⟨ad,cap,e,_⟩:=GOwn.shape ho';exact⟨_,_,_,e⟩
 subst hvv2;have K4:=K.below hb4;have hu7:Upd (fun k=>(Value.slice ad h.length cap).ownBlock=some k) w W':=(zAi hb4).grown hgr (fun _ _ e=>e);have hap7:(Value.slice vd2 vn2 vc2).ownBlock≠some p:=by
  rcases hob with e|⟨g,e,hg⟩
  · rw[e];exact K.ap
  · rw[e];intro e2;cases e2;have:=K4.lt;omega
 have HK:KAt B (W'.setCell ⟨p,1,none⟩ (.slice vd2 vn2 vc2)) p room (.slice vd2 vn2 vc2) (h++[m]):=K.lay hu7 K.ap (by rw[List.map_append];exact ho') hap7;have HU:Upd (KF p (.slice ad h.length cap)) w (W'.setCell ⟨p,1,none⟩ (.slice vd2 vn2 vc2)):=(hu7.mono (fun k hk => .inr hk)).setCell (a:=⟨p,1,none⟩) (.inl rfl) _;have HO:Hid ((Value.slice vd2 vn2 vc2).ownBlock=(Value.slice ad h.length cap).ownBlock∨∃g,(Value.slice vd2 vn2 vc2).ownBlock=some g∧w.heap.size≤g):=by
  rcases hob with e|⟨g,e,hg⟩
  · exact .inl e
  · exact .inr ⟨g,e,Nat.le_trans hb4.size hg⟩
 have hS3:V3.cell? ⟨p,1,none⟩=some (.slice ad h.length cap):=(K.below hb3).c1;have hS4:V4.cell? ⟨p,1,none⟩=some (.slice ad h.length cap):=K4.c1;have K5:W'.cell? ⟨p,1,none⟩=some (.slice ad h.length cap):=by rw[World.cell?_of_block (w:=w) (hu7.block p K.lt K.ap)];exact K.c1
 have F5:W'.frozen? ⟨p,1,none⟩=false:=by rw[World.frozen?_of_block (w:=w) (hu7.block p K.lt K.ap)];exact K.f1
 obtain⟨W8,hW8⟩:∃W8,W'.setCell ⟨p,1,none⟩ (.slice vd2 vn2 vc2)=W8:=⟨_,rfl⟩;rw[hW8]at HK HU;have HAP:Hid ((Builtin.append_ #[193,193] 193 #[.slice ad h.length cap,.slice (some ⟨V3.heap.size,0,none⟩) 1 1]).run Tryz.prog V4 = .ok (.slice vd2 vn2 vc2) W'):=hap;have HWS:Hid (W'.setCell ⟨p,1,none⟩ (.slice vd2 vn2 vc2)=W8):=hW8;have HV4E:Hid (V3.alloc (.cells #[.string m.1,.int .i64 m.2.1,.int .i64 m.2.2] 74)=V4):=hV4;have HKK:Hid (KAt B W8 p room (.slice vd2 vn2 vc2) (h++[m])):=HK;have HUU:Hid (Upd (KF p (.slice ad h.length cap)) w W8):=HU;have hta:=zHs;generalize h.length=n at *;clear hap ho' hgr hob hb3 hb34 hb4 hn4 hV4 hW8 K K4 hu7 hap7 HK HU hz3 hBV;unfold valM;go_enter Tryz.func223,Tryz.ntmps223;go_wp2_with fail;refine zBi (S:=fun W=>W.cell? ⟨p,1,none⟩=some (.slice ad n cap)) 10 9 rfl zH2 ?_;rw[hV3];clear hV3;refine te4 id 0 4 1 5 2 6 3 7 ?_;simp only[sZa,sZb,sZc];refine te2 id 4 8 5 9 ?_;simp only[sZa,sZb,sZc];refine zAg (i:=6) (v := .slice (some ⟨V3.heap.size,0,none⟩) 1 1) (w':=V4) 10 (by kernel_rfl) rfl rfl (by rfl) (by rw[←HV4E.out];go_simp;first|done|exact rfl) hS4 ?_;simp only[sZa,sZb,sZc];refine zAg (i:=7) (v := .slice vd2 vn2 vc2) (w':=W') 11 (by kernel_rfl) rfl rfl (by rfl) (zWk HAP.out) K5 ?_;simp only[sZa,sZb,sZc];refine zAg (i:=8) (v := .pointer (some ⟨p,1,none⟩)) (w':=W') 12 (by kernel_rfl) rfl rfl (by rfl) (by kernel_rfl) K5 ?_;simp only[sZa,sZb,sZc];refine zBc (w':=W8) (by kernel_rfl) rfl rfl (by rfl) (by rw[←HWS.out];go_simp;first|done|exact rfl) (by kernel_rfl) ?_;go_wp2;go_returns;exact⟨rfl,_,HKK.out,HUU.out,HO.out⟩
attribute [local go_sem ↓] zB4 zBs
set_option maxHeartbeats 1000000 in
theorem Ppop_any(B:Nat)(w:World)(p:Nat)(room:Int)(v:Value)(h:List Mt)(n:Nat)(K:KAt B w p room v h)(hn:h.length=n+1)(hl:h.length<1099511627776):
 Calls Tryz.prog 222 #[.pointer (some ⟨p,1,none⟩)] w fun e w'=>e = .returned (.iface 74 (valM (el h n)))∧∃v',KAt B w' p room v' (h.take n)∧Upd (KF p v) w w'∧v'.ownBlock=v.ownBlock:=by
 obtain⟨g,cap,rfl,hg,_,hcap,hc⟩:=GOwn.mt K.row (by omega);obtain⟨n0,n1,n2,f0,f1,f2⟩:=hc n (by omega);have hgp:g≠p:=fun e=>K.ap (by rw[e];rfl)
 obtain⟨V1,hV1⟩:∃V1,w.alloc (.cells #[.string ⟨#[]⟩,.int .i64 0,.int .i64 0] 74)=V1:=⟨_,rfl⟩;obtain⟨mb,hmb⟩:∃mb,w.heap.size=mb:=⟨_,rfl⟩;have hb1:Below w.heap.size w V1:=by rw[←hV1];exact(Below.refl _ w).alloc (Nat.le_refl _) _
 have hn1:V1.heap[mb]?=some (.cells #[.string ⟨#[]⟩,.int .i64 0,.int .i64 0] 74):=by rw[←hV1,←hmb];exact zBt _ _
 obtain⟨V2,hV2⟩:∃V2,V1.setCells mb 0 (cellsM (el h n))=V2:=⟨_,rfl⟩;have s1:zC7 Tryz.prog (.pointer (some ⟨mb,0,none⟩)) (valM (el h n)) V1 = .ok () V2:=by
  rw[←hV2];exact zC6 (u := .string ⟨#[]⟩) (v := .int .i64 0) (z := .int .i64 0) (by simp[World.cell?,hn1]) (by simp[World.cell?,hn1]) (by simp[World.cell?,hn1]) (by simp[World.frozen?,hn1]) (by simp[World.frozen?,hn1]) (by simp[World.frozen?,hn1])
 have u2:Upd (fun k=>k=mb) w V2:=by rw[←hV2];exact Upd.setCells (F:=fun k=>k=mb) rfl _ _ (zAi hb1)
 have hpm:¬p=mb:=by have:=K.lt;omega
 have K2:KAt B V2 p room (.slice (some ⟨g,0,none⟩) h.length cap) h:=K.upd u2 (fun k hk e=>by
  rcases hk with e2|e2
  · omega
  · simp only[Value.ownBlock,Option.some.injEq]at e2;omega)
 obtain⟨V3,hV3⟩:∃V3,V2.setCells g (n*3) (cellsM (⟨#[]⟩,0,0))=V3:=⟨_,rfl⟩;have s2:zC7 Tryz.prog (.pointer (some ⟨g,n*3,none⟩)) (.agg #[.string ⟨#[]⟩,.int .i64 0,.int .i64 0]) V2 = .ok () V3:=by
  rw[←hV3];have e2:=fun j=>World.cell?_of_block (w:=w) (w':=V2) (a:=⟨g,j,none⟩) (u2.block g hg (by show ¬g=mb;omega))
  have e3:=fun j=>World.frozen?_of_block (w:=w) (w':=V2) (a:=⟨g,j,none⟩) (u2.block g hg (by show ¬g=mb;omega))
  exact zC6 (x:=(⟨#[]⟩,0,0)) ((e2 _).trans n0) ((e2 _).trans n1) ((e2 _).trans n2) ((e3 _).trans f0) ((e3 _).trans f1) ((e3 _).trans f2)
 have u3:Upd (fun k=>k=g) V2 V3:=by rw[←hV3];exact Upd.setCells (F:=fun k=>k=g) rfl _ _ (Upd.refl _ _)
 have G3:GOwn 74 3 B V3 (.slice (some ⟨g,0,none⟩) n cap) ((h.take n).map cellsM):=by
  have G2:=GOwn.put K2.row (by simp) n (by simp;omega) (cellsM (⟨#[]⟩,0,0)) (cellsM_ok _);rw[hV3]at G2;have:=GOwn.cut G2 n (by simp) (by omega);rw[List.take_set_of_le (Nat.le_refl _),←List.map_take]at this;exact this
 have c3:V3.cell? ⟨p,1,none⟩=some (.slice (some ⟨g,0,none⟩) h.length cap):=(World.cell?_of_block (w:=V2) (a:=⟨p,1,none⟩) (u3.block p K2.lt (by show ¬p=g;omega))).trans K2.c1;have f3:V3.frozen? ⟨p,1,none⟩=false:=(World.frozen?_of_block (w:=V2) (a:=⟨p,1,none⟩) (u3.block p K2.lt (by show ¬p=g;omega))).trans K2.f1;have K4:KAt B (V3.setCell ⟨p,1,none⟩ (.slice (some ⟨g,0,none⟩) n cap)) p room (.slice (some ⟨g,0,none⟩) n cap) (h.take n):=K2.lay u3 (by show ¬p=g;omega) G3 (by simp only[Value.ownBlock,ne_eq,Option.some.injEq];exact hgp);have u4:Upd (KF p (.slice (some ⟨g,0,none⟩) h.length cap)) w (V3.setCell ⟨p,1,none⟩ (.slice (some ⟨g,0,none⟩) n cap)):=by
  refine Upd.setCell (F:=KF p (.slice (some ⟨g,0,none⟩) h.length cap)) (a:=⟨p,1,none⟩) ?_ (.inl rfl) _;have u5:Upd (KF p (.slice (some ⟨g,0,none⟩) h.length cap)) w V2:=⟨u2.os,u2.tape,u2.output,u2.size,fun k hk _=>u2.block k hk (by show ¬k=mb;omega)⟩;exact u5.trans u3 (fun k _ e => .inr (by rw[show k=g from e];rfl))
 obtain⟨V4,hV4⟩:∃V4,V3.setCell ⟨p,1,none⟩ (.slice (some ⟨g,0,none⟩) n cap)=V4:=⟨_,rfl⟩;rw[hV4]at K4 u4;have l4:zFj Tryz.prog (.pointer (some ⟨mb,0,none⟩)) V4 = .ok (valM (el h n)) V4:=by
  have hv2:V2.heap.size=V1.heap.size:=by(rw[←hV2];simp[cellsM,World.setCells,World.setCell])
  have hm1:mb<V1.heap.size:=(Array.getElem?_eq_some_iff.1 hn1).1;have hm2:mb<V2.heap.size:=by omega
  have hb4:V4.heap[mb]?=V2.heap[mb]?:=by
   rw[←hV4,Below.heap_setCell _ _ _ _ (by show mb≠p;omega),u3.block mb hm2 (by show ¬mb=g;omega)]
  have e:∀j,V4.cell? ⟨mb,j,none⟩=V2.cell? ⟨mb,j,none⟩:=fun j=>World.cell?_of_block (w:=V2) (a:=⟨mb,j,none⟩) hb4
  have I:=World.cell?_setCells_in mb (cellsM (el h n)) 0 V1 (fun j hj=>by
   (have:j=0∨j=1∨j=2:=by simp[cellsM]at hj;omega);rcases this with rfl|rfl|rfl<;>simp[World.cell?,hn1])
  rw[hV2]at I;exact zDo ((e 0).trans (I 0 (by simp[cellsM]))) ((e 1).trans (I 1 (by simp[cellsM]))) ((e 2).trans (I 2 (by simp[cellsM])))
 have l0:zFj Tryz.prog (.pointer (some ⟨g,n*3,none⟩)) w = .ok (valM (el h n)) w:=zDo n0 n1 n2;have HK:Hid (KAt B V4 p room (.slice (some ⟨g,0,none⟩) n cap) (h.take n)):=K4;have HU:Hid (Upd (KF p (.slice (some ⟨g,0,none⟩) h.length cap)) w V4):=u4;have c0:=K.c1;have c2:=K2.c1;have hw:IntKind.i64.wrap ((h.length:Int)-1)=(n:Int):=by rw[IntKind.wrap_i64];omega
 have hnl:(n:Int)<(h.length:Int):=by omega
 have hnc:(n:Int)≤(cap:Int):=by omega
 have hc0:¬cap=0:=by omega
 generalize el h n=x at *;generalize h.take n=ht at *;generalize h.length=ln at *;clear K K2 K4 u2 u3 u4 G3 hc n0 n1 n2 f0 f1 f2 hb1 hn1 hV2 hV3 hn hcap hgp hpm;go_enter Tryz.func222,Tryz.ntmps222;go_wp2;go_ret;exact⟨rfl,_,HK.out,HU.out,rfl⟩
end Bt
end
section
open Go.RowKit Go.Lib Nums Pm
namespace Bt
def zGd(p:Nat):Value := .iface 199 (.pointer (some ⟨p,1,none⟩))
theorem zK8(W:World)(p:Nat)(ad:Option Addr)(n cap:Nat)(h:W.cell? ⟨p,1,none⟩=some (.slice ad n cap))(s:String)(f:FuncId)(k fuel:Nat)
 (e2:Array.find? (fun x=>x.name==s) (Tryz.prog.types[199]!).methods=some (Tryz.prog.types[199]!.methods[k]!)) (hp:(Tryz.prog.types[199]!.methods[k]!).path=#[]) (hf:(Tryz.prog.types[199]!.methods[k]!).func=some (f,false)):(method (fuel+1) 199 (.pointer (some ⟨p,1,none⟩)) s).run Tryz.prog W = .ok (f,.slice ad n cap) W:=by
 have e1:(typeInfo 199).run Tryz.prog W = .ok (Tryz.prog.types[199]!) W:=by kernel_rfl
 have e3:(underlying 199).run Tryz.prog W = .ok (.pointer 193) W:=by kernel_rfl
 have e4:∀a b:String,(Builtin.ssaWrapNilChk_ #[199] 199 #[.pointer (some ⟨p,1,none⟩),strVal a,strVal b]).run Tryz.prog W = .ok (.pointer (some ⟨p,1,none⟩)) W:=fun _ _=>by kernel_rfl
 unfold method;simp only[Sem.run_bind,e1,Result.andThen_ok,e2,hp,hf,follow,receiverAt,Sem.run_pure,e3,Place.get,asAddr,loadVar];simp[go_sem,h,e4]
theorem zFi (W : World) (p : Nat) (ad : Option Addr) (n cap : Nat) (h : W.cell? ⟨p, 1, none⟩ = some (.slice ad n cap)) : (method 400 199 (.pointer (some ⟨p, 1, none⟩)) "Less").run Tryz.prog W = .ok (220, .slice ad n cap) W :=
 zK8 W p ad n cap h "Less" _ 1 _ (by kernel_rfl) (by kernel_rfl) (by kernel_rfl)
theorem zEb (W : World) (p : Nat) (ad : Option Addr) (n cap : Nat) (h : W.cell? ⟨p, 1, none⟩ = some (.slice ad n cap)) : (method 400 199 (.pointer (some ⟨p, 1, none⟩)) "Swap").run Tryz.prog W = .ok (221, .slice ad n cap) W :=
 zK8 W p ad n cap h "Swap" _ 4 _ (by kernel_rfl) (by kernel_rfl) (by kernel_rfl)
theorem zQn (W : World) (p : Nat) (ad : Option Addr) (n cap : Nat) (h : W.cell? ⟨p, 1, none⟩ = some (.slice ad n cap)) : (method 400 199 (.pointer (some ⟨p, 1, none⟩)) "Len").run Tryz.prog W = .ok (160, .slice ad n cap) W :=
 zK8 W p ad n cap h "Len" _ 0 _ (by kernel_rfl) (by kernel_rfl) (by kernel_rfl)
theorem zU5 (W : World) (p : Nat) : (method 400 199 (.pointer (some ⟨p, 1, none⟩)) "Push").run Tryz.prog W = .ok (223, .pointer (some ⟨p, 1, none⟩)) W := by kernel_rfl
theorem meth_pop (W : World) (p : Nat) : (method 400 199 (.pointer (some ⟨p, 1, none⟩)) "Pop").run Tryz.prog W = .ok (222, .pointer (some ⟨p, 1, none⟩)) W := by kernel_rfl
set_option maxHeartbeats 1000000 in
theorem up_any(B:Nat)(w:World)(p:Nat)(room:Int)(v:Value)(h:List Mt)(j:Nat)(K:KAt B w p room v h)(J:UpJ h.length h j)(hl:h.length<1099511627776):
 Calls Tryz.prog 162 #[zGd p,.int .i64 j] w fun e w'=>e = .returned (.tuple #[])∧∃h',KAt B w' p room v h'∧Upd (KF p v) w w'∧h'.Perm h∧Hp h'.length h':=by
 obtain⟨ad,cap,hv⟩:=K.form;obtain⟨n,hn⟩:∃n,h.length=n:=⟨_,rfl⟩;rw[hn]at hv hl J;subst hv;have HK:Hid (KAt B w p room (.slice ad n cap) h):=K;have HJ:Hid (UpJ n h j):=J;have hj:=J.lt;have HN:Hid (h.length=n):=hn;clear K J hn;unfold zGd;go_enter Tryz.func162,Tryz.ntmps162;go_wp2
 go_loopg [1] j (fun g s1 wr=>∃(k:Nat) (h':List Mt),s1 = .int .i64 k∧k≤g∧k<n∧Hid (KAt B wr p room (.slice ad n cap) h'∧UpJ n h' k∧h'.Perm h∧Upd (KF p (.slice ad n cap)) w wr))
 case atStart=>exact⟨j,h,rfl,Nat.le_refl _,by omega,HK.out,HJ.out,.refl _,Upd.refl _ _⟩
 case round=>
  obtain⟨k,h',rfl,hkg,hkn,HR⟩:=hrel;have HL':Hid (h'.length=n):=by have:=HR.out.2.2.1.length_eq;have:=HN.out;show h'.length=n;omega
  by_cases h0:k=0
  · subst h0
    go_wp2;go_returns;exact⟨rfl,h',HR.out.1,HR.out.2.2.2,HR.out.2.2.1,by rw[HL'.out];exact HR.out.2.1.stop (.inl rfl)⟩
  · have hpk:pa k<k:=by unfold pa;omega
    have hdiv:((k:Int)-1).tdiv 2=(pa k:Int):=by
     (have:(k:Int)-1=((k-1:Nat):Int):=by omega);rw[this];unfold pa;exact(Int.ofNat_tdiv _ _).symm
    (have hne:((pa k:Int)==(k:Int))=false:=by simp;omega);have hm:=zFi wr p ad n cap HR.out.1.c1;have HLS:Hid (Calls Tryz.prog 220 #[.slice ad n cap,.int .i64 (k:Int),.int .i64 (pa k:Int)] wr fun e w'=>e = .returned (.bool (btr (el h' (pa k)) (el h' k)))∧Below wr.heap.size wr w'):=zF6 B wr _ h' HR.out.1.row k (pa k) (by have:=HL'.out;omega) (by have:=HL'.out;omega) (by have:=HL'.out;omega);obtain⟨i,hi⟩:∃i,pa k=i:=⟨_,rfl⟩;rw[hi]at hdiv hne HLS hpk;obtain⟨b,hb⟩:∃b,btr (el h' i) (el h' k)=b:=⟨_,rfl⟩;have HI:Hid (pa k=i):=hi;have HB:Hid (btr (el h' i) (el h' k)=b):=hb;rw[hb]at HLS;clear hi hb h0;cases b
    · go_wp2_with (go_at_call 220;refine HLS.out.mono ?_;rintro e w1 ⟨rfl,hb1⟩;have HB1:Hid (Below wr.heap.size wr w1):=hb1;clear hb1)
      go_returns;exact⟨rfl,h',HR.out.1.below HB1.out,HR.out.2.2.2.trans (G:=fun _=>False) (zAi HB1.out) (fun _ _ f=>f.elim),HR.out.2.2.1,by rw[HL'.out];exact HR.out.2.1.stop (.inr (by rw[HI.out];exact HB.out))⟩
    · go_wp2_with (go_at_call 220;refine HLS.out.mono ?_;rintro e w1 ⟨rfl,hb1⟩;have HB1:Hid (Below wr.heap.size wr w1):=hb1;clear hb1;clear hm;have hm:=zEb w1 p ad n cap (HR.out.1.below HB1.out).c1)
      have HSW:Hid (Calls Tryz.prog 221 #[.slice ad n cap,.int .i64 (i:Int),.int .i64 (k:Int)] w1 fun e w'=>e = .returned (.tuple #[])∧GOwn 74 3 B w' (.slice ad n cap) ((swp h' i k).map cellsM)∧Upd (fun j=>(Value.slice ad n cap).ownBlock=some j) w1 w'):=zF3 B w1 _ h' (HR.out.1.below HB1.out).row i k (by have:=HL'.out;omega) (by have:=HL'.out;omega) (by have:=HL'.out;omega);refine HSW.out.mono ?_;rintro e w2 ⟨rfl,hg2,hu2⟩;have K1:=HR.out.1.below HB1.out;have HR2:Hid (KAt B w2 p room (.slice ad n cap) (swp h' i k)∧UpJ n (swp h' i k) i∧(swp h' i k).Perm h∧Upd (KF p (.slice ad n cap)) w w2):=by
       have J2:=HR.out.2.1.step (by omega) (by rw[HI.out];exact HB.out);rw[HI.out]at J2;have hp:=hu2.block p K1.lt K1.ap;refine⟨⟨K1.low,Nat.lt_of_lt_of_le K1.lt hu2.size,(World.cell?_of_block (w:=w1) (a:=⟨p,0,none⟩) hp).trans K1.c0,(World.cell?_of_block (w:=w1) (a:=⟨p,1,none⟩) hp).trans K1.c1,(World.frozen?_of_block (w:=w1) (a:=⟨p,1,none⟩) hp).trans K1.f1,hg2,K1.ap⟩,J2,(zKp h' i k (by have:=HL'.out;omega) (by have:=HL'.out;omega)).trans HR.out.2.2.1,?_⟩;exact(HR.out.2.2.2.trans (G:=fun _=>False) (zAi HB1.out) (fun _ _ f=>f.elim)).trans hu2 (fun _ _ e => .inr e)
      clear hg2 hu2 K1 HR hm HLS HSW;go_wp2;go_roundg i;(case measure=>omega);case rel=>exact⟨i,swp h' i k,rfl,Nat.le_refl _,by omega,HR2⟩
end Bt
end
