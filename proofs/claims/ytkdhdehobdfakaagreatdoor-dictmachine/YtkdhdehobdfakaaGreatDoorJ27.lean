import Derived.Test.YtkdhdehobdfakaaGreatDoorJ24
set_option maxRecDepth 100000
set_option maxHeartbeats 8000000
namespace Go.Proofs.YtkdhdehobdfakaaGreatDoor
section
open Go.RowKit Go.Lib Nums Pm
namespace Bt
theorem zL4(w:World)(ad:Option Addr)(n cap:Nat):Calls Tryz.prog 138 #[.slice ad n cap] w fun e w'=>e = .returned (.int .i64 n)∧w'=w:=by
 go_enter Tryz.func138,Tryz.ntmps138;go_wp2;go_ret;exact⟨rfl,rfl⟩
structure S2(g a b:Nat)(x y:Mt)(W:World):Prop where
 a0:W.cell? ⟨g,a,none⟩=some (.string x.1)
 a1:W.cell? ⟨g,a+1,none⟩=some (.int .i64 x.2.1)
 a2:W.cell? ⟨g,a+2,none⟩=some (.int .i64 x.2.2)
 b0:W.cell? ⟨g,b,none⟩=some (.string y.1)
 b1:W.cell? ⟨g,b+1,none⟩=some (.int .i64 y.2.1)
 b2:W.cell? ⟨g,b+2,none⟩=some (.int .i64 y.2.2)
theorem S2.facts{g a b:Nat}{x y:Mt}{W:World}(h:S2 g a b x y W):W.cell? ⟨g,a,none⟩=some (.string x.1)∧W.cell? ⟨g,a+1,none⟩=some (.int .i64 x.2.1)∧W.cell? ⟨g,a+2,none⟩=some (.int .i64 x.2.2)∧W.cell? ⟨g,b,none⟩=some (.string y.1)∧W.cell? ⟨g,b+1,none⟩=some (.int .i64 y.2.1)∧W.cell? ⟨g,b+2,none⟩=some (.int .i64 y.2.2):=⟨h.a0,h.a1,h.a2,h.b0,h.b1,h.b2⟩
theorem S2.below{g a b:Nat}{x y:Mt}{W W':World}(h:S2 g a b x y W)(hg:g<W.heap.size)(hb:Below W.heap.size W W'):S2 g a b x y W':=
 ⟨(hb.cell (p:=⟨g,a,none⟩) hg).trans h.a0,(hb.cell (p:=⟨g,a+1,none⟩) hg).trans h.a1,(hb.cell (p:=⟨g,a+2,none⟩) hg).trans h.a2,(hb.cell (p:=⟨g,b,none⟩) hg).trans h.b0,(hb.cell (p:=⟨g,b+1,none⟩) hg).trans h.b1,(hb.cell (p:=⟨g,b+2,none⟩) hg).trans h.b2⟩
theorem zL7(B:Nat)(w:World)(v:Value)(h:List Mt)(H:GOwn 52 3 B w v (h.map cellsM))(i j:Nat)(hi:i<h.length)(hj:j<h.length)(hl:h.length<4611686018427387904):
 Calls Tryz.prog 198 #[v,.int .i64 i,.int .i64 j] w fun e w'=>e = .returned (.bool (btr (el h j) (el h i)))∧Below w.heap.size w w':=by
 obtain⟨g,cap,rfl,hg,_,hcap,hc⟩:=GOwn.mt H (by omega);obtain⟨i0,i1,i2,_⟩:=hc i hi;obtain⟨j0,j1,j2,_⟩:=hc j hj;have hS0:S2 g (j*3) (i*3) (el h j) (el h i) w.drew:=⟨j0,j1,j2,i0,i1,i2⟩;have HB:=fun W=>zKf (el h j) (el h i) W
 have hiz:(i:Int)<(h.length:Int):=by omega
 have hjz:(j:Int)<(h.length:Int):=by omega
 generalize el h j=y at HB hS0 ⊢;generalize el h i=x at HB hS0 ⊢;generalize h.length=n at hiz hjz hcap hl ⊢;clear H hc i0 i1 i2 j0 j1 j2 hi hj;go_enter Tryz.func198,Tryz.ntmps198;go_wp2_with fail;refine zAh (S:=S2 g (j*3) (i*3) y x) 10 rfl zM9 hS0 (fun _=>?_);refine tq4 S2.facts 0 7 1 8 2 9 3 10 ?_;simp only[sZa,sZb,sZc];refine tq4 S2.facts 4 11 5 12 6 13 7 14 ?_;simp only[sZa,sZb,sZc];refine zFv (i:=8) (w0:=w.drew) 15 105 #[valM y,valM x] (by kernel_rfl) rfl rfl (by rfl) (by kernel_rfl) ((HB w.drew).mono ?_);rintro e w1 ⟨rfl,hb⟩;have hS1:S2 g (j*3) (i*3) y x w1:=hS0.below hg hb;refine⟨_,rfl,hS1,fun _=>?_⟩;simp only[sZa,sZb,sZc];refine zAo (i:=9) (v := .bool (btr y x)) (w':=w1) 6 (by kernel_rfl) rfl rfl (by rfl) (by kernel_rfl) hS1 (fun _=>?_);simp only[sZa,sZb,sZc];refine wpAnyH_done (by kernel_rfl) ?_ _;go_wp2;go_ret;exact⟨rfl,(Below.refl _ w).drew.trans hb⟩
attribute [local go_sem ↓] zB6 zBt
theorem zL2(B:Nat)(w:World)(v:Value)(h:List Mt)(H:GOwn 52 3 B w v (h.map cellsM))(i j:Nat)(hi:i<h.length)(hj:j<h.length)(hl:h.length<4611686018427387904):
 Calls Tryz.prog 199 #[v,.int .i64 i,.int .i64 j] w fun e w'=>e = .returned (.tuple #[])∧GOwn 52 3 B w' v ((swp h i j).map cellsM)∧Upd (fun k=>v.ownBlock=some k) w w':=by
 obtain⟨g,cap,rfl,hg,_,hcap,hc⟩:=GOwn.mt H (by omega);obtain⟨i0,i1,i2,f0,f1,f2⟩:=hc i hi;obtain⟨j0,j1,j2,_⟩:=hc j hj;have hiz:(i:Int)<(h.length:Int):=by omega
 have hjz:(j:Int)<(h.length:Int):=by omega
 have H1:GOwn 52 3 B (w.drew.setCells g (i*3) (cellsM (el h j))) (.slice (some ⟨g,0,none⟩) h.length cap) ((h.set i (el h j)).map cellsM):=by
  rw[map_set];exact GOwn.put (w:=w.drew) H (by simp) i (by simpa using hi) _ (cellsM_ok _)
 have H2:GOwn 52 3 B ((w.drew.setCells g (i*3) (cellsM (el h j))).setCells g (j*3) (cellsM (el h i))) (.slice (some ⟨g,0,none⟩) h.length cap) ((swp h i j).map cellsM):=by
  unfold swp;rw[map_set];exact GOwn.put H1 (by simp) j (by simpa using hj) _ (cellsM_ok _)
 have HU:Upd (fun k=>(Value.slice (some ⟨g,0,none⟩) h.length cap).ownBlock=some k) w ((w.drew.setCells g (i*3) (cellsM (el h j))).setCells g (j*3) (cellsM (el h i))):=Upd.setCells (F:=fun k=>(Value.slice (some ⟨g,0,none⟩) h.length cap).ownBlock=some k) (g:=g) rfl _ _ (Upd.setCells (F:=fun k=>(Value.slice (some ⟨g,0,none⟩) h.length cap).ownBlock=some k) (g:=g) rfl _ _ (Upd.refl _ w).drew);have li:zFx Tryz.prog (.pointer (some ⟨g,i*3,none⟩)) w.drew = .ok (valM (el h i)) w.drew:=zDr i0 i1 i2;have lj:zFx Tryz.prog (.pointer (some ⟨g,j*3,none⟩)) w.drew = .ok (valM (el h j)) w.drew:=zDr j0 j1 j2;have si:zDa Tryz.prog (.pointer (some ⟨g,i*3,none⟩)) (valM (el h j)) w.drew = .ok () (w.drew.setCells g (i*3) (cellsM (el h j))):=zC9 i0 i1 i2 f0 f1 f2;have sj:zDa Tryz.prog (.pointer (some ⟨g,j*3,none⟩)) (valM (el h i)) (w.drew.setCells g (i*3) (cellsM (el h j))) = .ok () ((w.drew.setCells g (i*3) (cellsM (el h j))).setCells g (j*3) (cellsM (el h i))):=by
  obtain⟨g',cap',hv,_,_,_,hc'⟩:=GOwn.mt H1 (by simp;omega);simp only[Value.slice.injEq,Option.some.injEq,Addr.mk.injEq,and_true]at hv;obtain⟨rfl,_,_⟩:=hv;obtain⟨k0,k1,k2,e0,e1,e2⟩:=hc' j (by simpa using hj);exact zC9 k0 k1 k2 e0 e1 e2
 have mixed:=zM9;have HG:Hid (GOwn 52 3 B ((w.drew.setCells g (i*3) (cellsM (el h j))).setCells g (j*3) (cellsM (el h i))) (.slice (some ⟨g,0,none⟩) h.length cap) ((swp h i j).map cellsM)):=H2;have HUU:Hid (Upd (fun k=>(Value.slice (some ⟨g,0,none⟩) h.length cap).ownBlock=some k) w ((w.drew.setCells g (i*3) (cellsM (el h j))).setCells g (j*3) (cellsM (el h i)))):=HU;generalize (swp h i j).map cellsM=hs at HG ⊢;generalize el h j=y at lj si sj HG HUU;generalize el h i=x at li sj HG HUU;generalize h.length=n at hiz hjz hcap hl HG HUU ⊢;clear H hc i0 i1 i2 j0 j1 j2 hi hj H1 H2 HU f0 f1 f2;go_enter Tryz.func199,Tryz.ntmps199;go_wp2_with fail
 go_big_region_o
 go_wp2;go_returns;exact⟨rfl,HG.out,HUU.out⟩
end Bt
end
section
open Go.RowKit Go.Lib Nums Pm
namespace Bt
structure KAt(B:Nat)(w:World)(p:Nat)(room:Int)(v:Value)(h:List Mt):Prop where
 low:B≤p
 lt:p<w.heap.size
 c0:w.cell? ⟨p,0,none⟩=some (.int .i64 room)
 c1:w.cell? ⟨p,1,none⟩=some v
 f1:w.frozen? ⟨p,1,none⟩=false
 row:GOwn 52 3 B w v (h.map cellsM)
 ap:v.ownBlock≠some p
def KF(p:Nat)(v:Value)(k:Nat):Prop:=k=p∨v.ownBlock=some k
theorem KAt.form{B:Nat}{w:World}{p:Nat}{room:Int}{v:Value}{h:List Mt}(K:KAt B w p room v h):∃ad cap,v = .slice ad h.length cap:=by
 obtain⟨ad,cap,e,_⟩:=K.row.shape;exact⟨ad,cap,by rw[e,List.length_map]⟩
theorem KAt.upd{B:Nat}{w w':World}{p:Nat}{room:Int}{v:Value}{h:List Mt}{F:Nat→Prop}(K:KAt B w p room v h)(u:Upd F w w')(hF:∀k,KF p v k→¬F k):KAt B w' p room v h:=by
 have hp:=u.block p K.lt (hF p (.inl rfl));exact⟨K.low,Nat.lt_of_lt_of_le K.lt u.size,(World.cell?_of_block (w:=w) hp).trans K.c0,(World.cell?_of_block (w:=w) hp).trans K.c1,(World.frozen?_of_block (w:=w) hp).trans K.f1,GOwn.upd K.row u (fun g hg=>hF g (.inr hg)),K.ap⟩
theorem KAt.below{B:Nat}{w w':World}{p:Nat}{room:Int}{v:Value}{h:List Mt}(K:KAt B w p room v h)(hb:Below w.heap.size w w'):KAt B w' p room v h:=
 K.upd (F:=fun _=>False) (zAm hb) (fun _ _ h=>h)
theorem KF.low{B:Nat}{w:World}{p:Nat}{room:Int}{v:Value}{h:List Mt}(K:KAt B w p room v h){k:Nat}(hk:KF p v k):B≤k:=by
 rcases hk with rfl|hk
 · exact K.low
 · exact(K.row.block hk).1
theorem KAt.lay{B:Nat}{w w':World}{p:Nat}{room:Int}{v v':Value}{h h':List Mt}{F:Nat→Prop}(K:KAt B w p room v h)(u:Upd F w w')(hF:¬F p)(ho:GOwn 52 3 B w' v' (h'.map cellsM))(ha:v'.ownBlock≠some p):KAt B (w'.setCell ⟨p,1,none⟩ v') p room v' h':=by
 have hp:=u.block p K.lt hF;have hlt:=Nat.lt_of_lt_of_le K.lt u.size;have c0:=(World.cell?_of_block (w:=w) (w':=w') (a:=⟨p,0,none⟩) hp).trans K.c0;have c1:=(World.cell?_of_block (w:=w) (w':=w') (a:=⟨p,1,none⟩) hp).trans K.c1;have f1:=(World.frozen?_of_block (w:=w) (w':=w') (a:=⟨p,1,none⟩) hp).trans K.f1;refine⟨K.low,by simpa[World.setCell]using hlt,?_,?_,?_,?_,ha⟩
 · have:=World.cell?_setCells_out p [v'] 1 w' ⟨p,0,none⟩ (fun _ _ => .inl (by simp))
   exact this.trans c0
 · exact World.cell?_setCell_same _ _ _ c1
 · exact(World.frozen?_setCells p [v'] 1 w' ⟨p,1,none⟩).trans f1
 · exact ho.same fun g hg=>Below.heap_setCell _ _ _ _ (fun e=>ha (by rw[show p=g from e.symm];exact hg))
theorem GOwn.cut{T:TypeId}{k B g n cap:Nat}{w:World}{xss:List (List Value)}(h:GOwn T k B w (.slice (some ⟨g,0,none⟩) n cap) xss)(m:Nat)(hn:n=xss.length)(hm:m≤n):GOwn T k B w (.slice (some ⟨g,0,none⟩) m cap) (xss.take m):=by
 subst hn;have hfl:∀(xs:List (List Value)) (m:Nat),(∀y∈xs,y.length=k)→(xs.take m).flatten=xs.flatten.take (m*k):=by
  intro xs
  induction xs with
  |nil=>intro m _;simp
  |cons y r ih=>
   intro m hk;cases m with
   |zero=>simp
   |succ m=>
    rw[List.take_succ_cons,List.flatten_cons,List.flatten_cons,ih m (fun z hz=>hk z (by simp[hz])),List.take_append,hk y (by simp),List.take_of_length_le (l:=y) (by rw[hk y (by simp),Nat.add_mul];omega),show(m+1)*k-k=m*k by rw[Nat.add_mul];omega]
 obtain⟨h0,hl,⟨e,_⟩|⟨g',cap',cur,e,h1,hg,h2,h3,h4,h5⟩⟩:=h
 · cases e
 · simp only[Value.slice.injEq,Option.some.injEq,Addr.mk.injEq,and_true,true_and]at e
   obtain⟨rfl,rfl⟩:=e;(have hlen:(xss.take m).length=m:=by rw[List.length_take];omega);refine⟨fun y hy=>h0 y (List.mem_of_mem_take hy),?_,.inr ⟨g,cap,cur,by rw[hlen],h1,hg,by rw[hlen];omega,h3,h4,?_⟩⟩
   · rw[hfl xss m (fun y hy=>(h0 y hy).1),List.length_take,hl,hlen]
     exact Nat.min_eq_left (Nat.mul_le_mul_right _ hm)
   · rw[hlen,hfl xss m (fun y hy=>(h0 y hy).1),←h5,List.take_take,Nat.min_eq_left (Nat.mul_le_mul_right _ hm)]
theorem zXn{P:Program}{ρ:Operand→Value}{x y:Operand}{t:TypeId}{dst:Option Tmp}{ty:TypeId}{pos:String}{af:Array Edge}{g:Option (Nat×Bool)}{w w':World}{v:Value}(h:(Builtin.append_ #[t,t] ty #[ρ x,ρ y]).run P w = .ok v w'):
 (execOp ρ ⟨dst,.call { callee := .builtin .append,args:=#[x,y],argTypes:=#[t,t] },ty,pos,af,g⟩).run P w = .ok (.value v) w':=by
 unfold execOp;simp only[resolve,invoke,builtin,Sem.run_bind,Sem.run_pure,Result.andThen_ok,List.map_toArray,List.map_cons,List.map_nil,h]
theorem zHy(w:World)(x:Value)(t:TypeId):(Instr.typeAssert (.iface 52 x) t 52 false).run Tryz.prog w = .ok x w:=by kernel_rfl
theorem zBu(w:World)(o:Obj):(w.alloc o).heap[w.heap.size]?=some o:=by show(w.heap.push o)[w.heap.size]?=_;simp
theorem zYx(B:Nat)(w:World)(p:Nat)(room:Int)(v:Value)(h:List Mt)(m:Mt)(K:KAt B w p room v h)(hl:h.length<1099511627776):
 Calls Tryz.prog 201 #[.pointer (some ⟨p,1,none⟩),.iface 52 (valM m)] w fun e w'=>e = .returned (.tuple #[])∧∃v',KAt B w' p room v' (h++[m])∧Upd (KF p v) w w'∧(v'.ownBlock=v.ownBlock∨∃g,v'.ownBlock=some g∧w.heap.size≤g):=by
 obtain⟨ad,cap,rfl⟩:=K.form;obtain⟨V3,hV3⟩:∃V3,w.drew=V3:=⟨_,rfl⟩;have hb3:Below w.heap.size w V3:=by rw[←hV3];exact(Below.refl _ w).drew
 have hz3:V3.heap.size=w.heap.size:=by rw[←hV3];rfl
 obtain⟨V4,hV4⟩:∃V4,V3.alloc (.cells #[.string m.1,.int .i64 m.2.1,.int .i64 m.2.2] 52)=V4:=⟨_,rfl⟩;have hb34:Below V3.heap.size V3 V4:=by rw[←hV4];exact(Below.refl _ V3).alloc (Nat.le_refl _) _
 have hb4:Below w.heap.size w V4:=hb3.trans (hb34.mono hb3.size);have hn4:V4.heap[V3.heap.size]?=some (.cells #[.string m.1,.int .i64 m.2.1,.int .i64 m.2.2] 52):=by rw[←hV4];exact zBu _ _
 have hBV:B≤V4.heap.size:=by have h1:=K.low;have h2:=K.lt;have h3:=hb4.size;omega
 obtain⟨v',W',hap,ho',hgr,hob⟩:=zAx rtyMp (GOwn.below K.row hb4) hBV (cellsM_ok m) (nb:=V3.heap.size) (fun i u hi=>by simp only[World.cell?,hn4];simpa[cellsM]using hi) (by rw[List.length_map];omega) 181 1;obtain⟨vd2,vn2,vc2,hvv2⟩:∃vd vn vc,v' = .slice vd vn vc:=by
  obtain⟨ad,cap,e,_⟩:=GOwn.shape ho';exact⟨_,_,_,e⟩
 subst hvv2;have K4:=K.below hb4;have hu7:Upd (fun k=>(Value.slice ad h.length cap).ownBlock=some k) w W':=(zAm hb4).grown hgr (fun _ _ e=>e);have hap7:(Value.slice vd2 vn2 vc2).ownBlock≠some p:=by
  rcases hob with e|⟨g,e,hg⟩
  · rw[e];exact K.ap
  · rw[e];intro e2;cases e2;have:=K4.lt;omega
 have HK:KAt B (W'.setCell ⟨p,1,none⟩ (.slice vd2 vn2 vc2)) p room (.slice vd2 vn2 vc2) (h++[m]):=K.lay hu7 K.ap (by rw[List.map_append];exact ho') hap7;have HU:Upd (KF p (.slice ad h.length cap)) w (W'.setCell ⟨p,1,none⟩ (.slice vd2 vn2 vc2)):=(hu7.mono (fun k hk => .inr hk)).setCell (a:=⟨p,1,none⟩) (.inl rfl) _;have HO:Hid ((Value.slice vd2 vn2 vc2).ownBlock=(Value.slice ad h.length cap).ownBlock∨∃g,(Value.slice vd2 vn2 vc2).ownBlock=some g∧w.heap.size≤g):=by
  rcases hob with e|⟨g,e,hg⟩
  · exact .inl e
  · exact .inr ⟨g,e,Nat.le_trans hb4.size hg⟩
 have hS3:V3.cell? ⟨p,1,none⟩=some (.slice ad h.length cap):=(K.below hb3).c1;have hS4:V4.cell? ⟨p,1,none⟩=some (.slice ad h.length cap):=K4.c1;have K5:W'.cell? ⟨p,1,none⟩=some (.slice ad h.length cap):=by rw[World.cell?_of_block (w:=w) (hu7.block p K.lt K.ap)];exact K.c1
 have F5:W'.frozen? ⟨p,1,none⟩=false:=by rw[World.frozen?_of_block (w:=w) (hu7.block p K.lt K.ap)];exact K.f1
 obtain⟨W8,hW8⟩:∃W8,W'.setCell ⟨p,1,none⟩ (.slice vd2 vn2 vc2)=W8:=⟨_,rfl⟩;rw[hW8]at HK HU;have HAP:Hid ((Builtin.append_ #[181,181] 181 #[.slice ad h.length cap,.slice (some ⟨V3.heap.size,0,none⟩) 1 1]).run Tryz.prog V4 = .ok (.slice vd2 vn2 vc2) W'):=hap;have HWS:Hid (W'.setCell ⟨p,1,none⟩ (.slice vd2 vn2 vc2)=W8):=hW8;have HV4E:Hid (V3.alloc (.cells #[.string m.1,.int .i64 m.2.1,.int .i64 m.2.2] 52)=V4):=hV4;have HKK:Hid (KAt B W8 p room (.slice vd2 vn2 vc2) (h++[m])):=HK;have HUU:Hid (Upd (KF p (.slice ad h.length cap)) w W8):=HU;have hta:=zHy;generalize h.length=n at *;clear hap ho' hgr hob hb3 hb34 hb4 hn4 hV4 hW8 K K4 hu7 hap7 HK HU hz3 hBV;unfold valM;go_enter Tryz.func201,Tryz.ntmps201;go_wp2_with fail;refine zBd (S:=fun W=>W.cell? ⟨p,1,none⟩=some (.slice ad n cap)) 10 9 rfl zM9 ?_;rw[hV3];clear hV3;refine te4 id 0 4 1 5 2 6 3 7 ?_;simp only[sZa,sZb,sZc];refine te2 id 4 8 5 9 ?_;simp only[sZa,sZb,sZc];refine zAg (i:=6) (v := .slice (some ⟨V3.heap.size,0,none⟩) 1 1) (w':=V4) 10 (by kernel_rfl) rfl rfl (by rfl) (by rw[←HV4E.out];go_simp;first|done|exact rfl) hS4 ?_;simp only[sZa,sZb,sZc];refine zAg (i:=7) (v := .slice vd2 vn2 vc2) (w':=W') 11 (by kernel_rfl) rfl rfl (by rfl) (zXn HAP.out) K5 ?_;simp only[sZa,sZb,sZc];refine zAg (i:=8) (v := .pointer (some ⟨p,1,none⟩)) (w':=W') 12 (by kernel_rfl) rfl rfl (by rfl) (by kernel_rfl) K5 ?_;simp only[sZa,sZb,sZc];refine zA6 (w':=W8) (by kernel_rfl) rfl rfl (by rfl) (by rw[←HWS.out];go_simp;first|done|exact rfl) (by kernel_rfl) ?_;go_wp2;go_returns;exact⟨rfl,_,HKK.out,HUU.out,HO.out⟩
attribute [local go_sem ↓] zB6 zBt
theorem Ppop_any(B:Nat)(w:World)(p:Nat)(room:Int)(v:Value)(h:List Mt)(n:Nat)(K:KAt B w p room v h)(hn:h.length=n+1)(hl:h.length<1099511627776):
 Calls Tryz.prog 200 #[.pointer (some ⟨p,1,none⟩)] w fun e w'=>e = .returned (.iface 52 (valM (el h n)))∧∃v',KAt B w' p room v' (h.take n)∧Upd (KF p v) w w'∧v'.ownBlock=v.ownBlock:=by
 obtain⟨g,cap,rfl,hg,_,hcap,hc⟩:=GOwn.mt K.row (by omega);obtain⟨n0,n1,n2,f0,f1,f2⟩:=hc n (by omega);have hgp:g≠p:=fun e=>K.ap (by rw[e];rfl)
 obtain⟨V1,hV1⟩:∃V1,w.alloc (.cells #[.string ⟨#[]⟩,.int .i64 0,.int .i64 0] 52)=V1:=⟨_,rfl⟩;obtain⟨mb,hmb⟩:∃mb,w.heap.size=mb:=⟨_,rfl⟩;have hb1:Below w.heap.size w V1:=by rw[←hV1];exact(Below.refl _ w).alloc (Nat.le_refl _) _
 have hn1:V1.heap[mb]?=some (.cells #[.string ⟨#[]⟩,.int .i64 0,.int .i64 0] 52):=by rw[←hV1,←hmb];exact zBu _ _
 obtain⟨V2,hV2⟩:∃V2,V1.setCells mb 0 (cellsM (el h n))=V2:=⟨_,rfl⟩;have s1:zDa Tryz.prog (.pointer (some ⟨mb,0,none⟩)) (valM (el h n)) V1 = .ok () V2:=by
  rw[←hV2];exact zC9 (u := .string ⟨#[]⟩) (v := .int .i64 0) (z := .int .i64 0) (by simp[World.cell?,hn1]) (by simp[World.cell?,hn1]) (by simp[World.cell?,hn1]) (by simp[World.frozen?,hn1]) (by simp[World.frozen?,hn1]) (by simp[World.frozen?,hn1])
 have u2:Upd (fun k=>k=mb) w V2:=by rw[←hV2];exact Upd.setCells (F:=fun k=>k=mb) rfl _ _ (zAm hb1)
 have hpm:¬p=mb:=by have:=K.lt;omega
 have K2:KAt B V2 p room (.slice (some ⟨g,0,none⟩) h.length cap) h:=K.upd u2 (fun k hk e=>by
  rcases hk with e2|e2
  · omega
  · simp only[Value.ownBlock,Option.some.injEq]at e2;omega)
 obtain⟨V3,hV3⟩:∃V3,V2.setCells g (n*3) (cellsM (⟨#[]⟩,0,0))=V3:=⟨_,rfl⟩;have s2:zDa Tryz.prog (.pointer (some ⟨g,n*3,none⟩)) (.agg #[.string ⟨#[]⟩,.int .i64 0,.int .i64 0]) V2 = .ok () V3:=by
  rw[←hV3];have e2:=fun j=>World.cell?_of_block (w:=w) (w':=V2) (a:=⟨g,j,none⟩) (u2.block g hg (by show ¬g=mb;omega))
  have e3:=fun j=>World.frozen?_of_block (w:=w) (w':=V2) (a:=⟨g,j,none⟩) (u2.block g hg (by show ¬g=mb;omega))
  exact zC9 (x:=(⟨#[]⟩,0,0)) ((e2 _).trans n0) ((e2 _).trans n1) ((e2 _).trans n2) ((e3 _).trans f0) ((e3 _).trans f1) ((e3 _).trans f2)
 have u3:Upd (fun k=>k=g) V2 V3:=by rw[←hV3];exact Upd.setCells (F:=fun k=>k=g) rfl _ _ (Upd.refl _ _)
 have G3:GOwn 52 3 B V3 (.slice (some ⟨g,0,none⟩) n cap) ((h.take n).map cellsM):=by
  have G2:=GOwn.put K2.row (by simp) n (by simp;omega) (cellsM (⟨#[]⟩,0,0)) (cellsM_ok _);rw[hV3]at G2;have:=GOwn.cut G2 n (by simp) (by omega);rw[List.take_set_of_le (Nat.le_refl _),←List.map_take]at this;exact this
 have c3:V3.cell? ⟨p,1,none⟩=some (.slice (some ⟨g,0,none⟩) h.length cap):=(World.cell?_of_block (w:=V2) (a:=⟨p,1,none⟩) (u3.block p K2.lt (by show ¬p=g;omega))).trans K2.c1;have f3:V3.frozen? ⟨p,1,none⟩=false:=(World.frozen?_of_block (w:=V2) (a:=⟨p,1,none⟩) (u3.block p K2.lt (by show ¬p=g;omega))).trans K2.f1;have K4:KAt B (V3.setCell ⟨p,1,none⟩ (.slice (some ⟨g,0,none⟩) n cap)) p room (.slice (some ⟨g,0,none⟩) n cap) (h.take n):=K2.lay u3 (by show ¬p=g;omega) G3 (by simp only[Value.ownBlock,ne_eq,Option.some.injEq];exact hgp);have u4:Upd (KF p (.slice (some ⟨g,0,none⟩) h.length cap)) w (V3.setCell ⟨p,1,none⟩ (.slice (some ⟨g,0,none⟩) n cap)):=by
  refine Upd.setCell (F:=KF p (.slice (some ⟨g,0,none⟩) h.length cap)) (a:=⟨p,1,none⟩) ?_ (.inl rfl) _;have u5:Upd (KF p (.slice (some ⟨g,0,none⟩) h.length cap)) w V2:=⟨u2.os,u2.tape,u2.output,u2.size,fun k hk _=>u2.block k hk (by show ¬k=mb;omega)⟩;exact u5.trans u3 (fun k _ e => .inr (by rw[show k=g from e];rfl))
 obtain⟨V4,hV4⟩:∃V4,V3.setCell ⟨p,1,none⟩ (.slice (some ⟨g,0,none⟩) n cap)=V4:=⟨_,rfl⟩;rw[hV4]at K4 u4;have l4:zFx Tryz.prog (.pointer (some ⟨mb,0,none⟩)) V4 = .ok (valM (el h n)) V4:=by
  have hv2:V2.heap.size=V1.heap.size:=by(rw[←hV2];simp[cellsM,World.setCells,World.setCell])
  have hm1:mb<V1.heap.size:=(Array.getElem?_eq_some_iff.1 hn1).1;have hm2:mb<V2.heap.size:=by omega
  have hb4:V4.heap[mb]?=V2.heap[mb]?:=by
   rw[←hV4,Below.heap_setCell _ _ _ _ (by show mb≠p;omega),u3.block mb hm2 (by show ¬mb=g;omega)]
  have e:∀j,V4.cell? ⟨mb,j,none⟩=V2.cell? ⟨mb,j,none⟩:=fun j=>World.cell?_of_block (w:=V2) (a:=⟨mb,j,none⟩) hb4
  have I:=World.cell?_setCells_in mb (cellsM (el h n)) 0 V1 (fun j hj=>by
   (have:j=0∨j=1∨j=2:=by simp[cellsM]at hj;omega);rcases this with rfl|rfl|rfl<;>simp[World.cell?,hn1])
  rw[hV2]at I;exact zDr ((e 0).trans (I 0 (by simp[cellsM]))) ((e 1).trans (I 1 (by simp[cellsM]))) ((e 2).trans (I 2 (by simp[cellsM])))
 have l0:zFx Tryz.prog (.pointer (some ⟨g,n*3,none⟩)) w = .ok (valM (el h n)) w:=zDr n0 n1 n2;have HK:Hid (KAt B V4 p room (.slice (some ⟨g,0,none⟩) n cap) (h.take n)):=K4;have HU:Hid (Upd (KF p (.slice (some ⟨g,0,none⟩) h.length cap)) w V4):=u4;have c0:=K.c1;have c2:=K2.c1;have hw:IntKind.i64.wrap ((h.length:Int)-1)=(n:Int):=by rw[IntKind.wrap_i64];omega
 have hnl:(n:Int)<(h.length:Int):=by omega
 have hnc:(n:Int)≤(cap:Int):=by omega
 have hc0:¬cap=0:=by omega
 generalize el h n=x at *;generalize h.take n=ht at *;generalize h.length=ln at *;clear K K2 K4 u2 u3 u4 G3 hc n0 n1 n2 f0 f1 f2 hb1 hn1 hV2 hV3 hn hcap hgp hpm;go_enter Tryz.func200,Tryz.ntmps200;go_wp2;go_ret;exact⟨rfl,_,HK.out,HU.out,rfl⟩
end Bt
end
