import Derived.Test.YtkdhdehobdfakaaGreatDoorJ12
set_option maxRecDepth 100000
set_option maxHeartbeats 8000000
namespace Go.Proofs.YtkdhdehobdfakaaGreatDoor
section
open Go.RowKit Nums Fm
theorem zCj{P:Program}{ρ:Operand→Value}{x y:Operand}{t:TypeId}{dst:Option Tmp}{ty:TypeId}{pos:String}{af:Array Edge}{g:Option (Nat×Bool)}{w w':World}{v:Value}(h:(Builtin.append_ #[t,t] ty #[ρ x,ρ y]).run P w = .ok v w'):
 (execOp ρ ⟨dst,.call { callee := .builtin .append,args:=#[x,y],argTypes:=#[t,t] },ty,pos,af,g⟩).run P w = .ok (.value v) w':=by
 simp only[execOp,resolve,invoke,builtin,Sem.run_bind,Sem.run_pure,Result.andThen_ok,List.map_toArray,List.map_cons,List.map_nil,h]
theorem zS5(A:Nat→Prop)(E g g1 g2:Nat)(vs:Value)(b:List St)(m1:List (SK×Nat))(m2:List (LK×Nat))(D:List (List Arc))(w:World)(s:St)(va:Value)(h:BAt A E w g g1 g2 vs b m1 m2 D)(hv:AOwn E w va s.arcs)(hok:∀a∈s.arcs,zYy a)(hout:zB1 s.out)(hl:m2.length+s.arcs.length<1099511627776)(hb:b.length<1099511627776)(hal:∀k,A k→k<w.heap.size):
 Calls Tryz.prog 75 #[.pointer (some ⟨g,0,none⟩),.agg #[.bool s.final,.int .i64 s.out,va]] w fun e w'=>∃k:Nat,e = .returned (.int .i64 k)∧NumSays A E g g1 g2 vs b m2 s va w w' k:=by
 obtain⟨ad,cap,rfl,hcap⟩:=GOwn.shape hv;rw[List.length_map]at hv hcap ⊢;obtain⟨na,hna⟩:∃na,s.arcs.length=na:=⟨_,rfl⟩;rw[hna]at hv ⊢;have HL:Hid (m2.length+s.arcs.length<1099511627776):=hl;have HBL:Hid (b.length<1099511627776):=hb;have HO:Hid (zB1 s.out):=hout;have HAL:Hid (∀k,A k→k<w.heap.size):=hal;have HFP:Hid (∀k,fpB g g1 g2 vs k→k<w.heap.size):=h.fp_lt;obtain⟨bs,hbs⟩:∃bs,bs=w.heap.size:=⟨_,rfl⟩;obtain⟨w1,hw1⟩:∃w1,w1=w.alloc (.cells #[.bool s.final,.int .i64 s.out,.slice ad na cap] 56):=⟨_,rfl⟩;have hb1:Below w.heap.size w w1:=by rw[hw1];exact(Below.refl _ w).alloc (Nat.le_refl _) _
 have hbox1:w1.heap[bs]?=some (.cells #[.bool s.final,.int .i64 s.out,.slice ad na cap] 56):=by rw[hw1,hbs];exact zAb _ _
 have HB1:Hid (BAt A E w1 g g1 g2 vs b m1 m2 D):=h.below hb1;have HV1:Hid (AOwn E w1 (.slice ad na cap) s.arcs):=GOwn.below hv hb1;have HOK:Hid (∀a∈s.arcs,zYy a):=hok;have HU1:Hid (Upd (fun k=>k=g2) w w1):=Upd.of_below hb1;have HBX:Hid (w1.heap[bs]?=some (.cells #[.bool s.final,.int .i64 s.out,.slice ad na cap] 56)):=hbox1;have hbne:bs≠g2:=by have:=h.lt.2.2;omega
 have HBS:Hid (bs=w.heap.size∧bs≠g2∧w1.heap.size=bs+1):=⟨hbs,hbne,by rw[hw1,hbs];simp⟩;have hS1:TriAt w1.drew bs (.bool s.final) (.int .i64 s.out) (.slice ad na cap):=(TriAt.of hbox1).same rfl;clear h hv hok hl hb hout hal hna hb1 hbox1 hbne;go_enter Tryz.func75,Tryz.ntmps75;go_upto_region 1 with fail
 rw[←hw1,←hbs];clear hw1 hbs;refine zAh (S:=fun W=>TriAt W bs (.bool s.final) (.int .i64 s.out) (.slice ad na cap)) 11 rfl zAr hS1 (fun _=>?_);refine tq4 TriAt.facts 0 8 1 9 2 10 3 11 ?_;simp only[sZa,sZb,sZc];refine tq2 TriAt.facts 4 12 5 13 ?_;simp only[sZa,sZb,sZc];refine tq TriAt.facts 6 14 ?_;simp only[sZa,sZb,sZc];refine two_at (i:=7) (j:=9) 15 5 (by kernel_rfl) rfl rfl rfl rfl (by rfl) (by rfl) (fun K hK=>?_) (fun K hK=>?_)
 focus
  refine zQc 108 #[.pointer (some ⟨g,0,none⟩),.slice ad na cap] (w0:=w1.drew) (by kernel_rfl) ?_;refine(zRd A E g g1 g2 E vs b m1 m2 D w1.drew _ s.arcs (HB1.out.below ((Below.refl _ w1).drew)) (GOwn.below HV1.out ((Below.refl _ w1).drew)) HOK.out HL.out).mono ?_;rintro e w2 ⟨ln,m2',D',rfl,hB2,hlen2,_,hln2,hU2⟩;have hb2:w2.heap[bs]?=some (.cells #[.bool s.final,.int .i64 s.out,.slice ad na cap] 56):=(hU2.block bs (by have:=HBS.out;show bs<w1.heap.size;omega) HBS.out.2.1).trans HBX.out;have hS2:TriAt w2 bs (.bool s.final) (.int .i64 s.out) (.slice ad na cap):=TriAt.of hb2;refine⟨_,rfl,hK _ w2 hS2 fun _=>?_⟩;simp only[sZa,sZb,sZc];refine tq TriAt.facts 8 16 ?_;simp only[sZa,sZb,sZc];obtain⟨w3,hw3⟩:∃w3,w3=w2.alloc (.cells #[.bool false,.int .i64 0,.int .i64 0] 191):=⟨_,rfl⟩;have hb3:Below w2.heap.size w2 w3:=by rw[hw3];exact(Below.refl _ w2).alloc (Nat.le_refl _) _
  obtain⟨kb,hkb⟩:∃kb,kb=w2.heap.size:=⟨_,rfl⟩;have hk3:w3.heap[kb]?=some (.cells #[.bool false,.int .i64 0,.int .i64 0] 191):=by rw[hw3,hkb];exact zAb _ _
  have hbl2:bs<w2.heap.size:=hS2.c0 |> zAn
  refine zAo (i:=9) (v := .pointer (some ⟨kb,0,none⟩)) (w':=w3) 5 (by kernel_rfl) rfl rfl (by rfl) (by rw[hw3,hkb];go_simp;first|done|exact rfl) (hS2.same (hb3.block bs hbl2)) (fun _=>?_);simp only[sZa,sZb,sZc];obtain⟨q0,q1,q2⟩:=(TriAt.of hk3).facts;have z0:∀o,w3.frozen? ⟨kb,o,none⟩=false:=fun o=>by simp[World.frozen?,hk3]
  obtain⟨W,hW⟩:∃W,W=tri w3 kb (.bool s.final) (.int .i64 s.out) (.int .i64 ln):=⟨_,rfl⟩;have hUW:=zUh w3 kb (.bool s.final) (.int .i64 s.out) (.int .i64 ln);have hKW:=tri_at hk3 (.bool s.final) (.int .i64 s.out) (.int .i64 ln);rw[←hW]at hUW hKW;have hbk:bs≠kb:=by omega
  have hbs3:bs<w3.heap.size:=Nat.lt_of_lt_of_le hbl2 hb3.size;have hbW:W.heap[bs]?=some (.cells #[.bool s.final,.int .i64 s.out,.slice ad na cap] 56):=(hUW.block bs hbs3 hbk).trans ((hb3.block bs hbl2).trans hb2);have hsz2:w.heap.size≤w2.heap.size:=by have h1:=hU2.size;have h2:=HBS.out;have h3:w1.drew.heap.size=w1.heap.size:=rfl;omega
  have HM:Hid (NumMid A E g g1 g2 vs b m1 m2 s (.slice ad na cap) w W bs kb ln m2' D'):=by
   have hB3:=hB2.below hb3;(have hbW3:∀k,k<w3.heap.size→k≠kb→W.heap[k]?=w3.heap[k]?:=fun k h1 h2=>hUW.block k h1 h2);have hBW:BAt A E W g g1 g2 vs b m1 m2' D':=hB3.keepJ (J:=fun k=>k=kb) hbW3 (fun k e=>⟨fun f=>by have:=hB2.fp_lt k f;omega,fun f=>by have h1:=HAL.out k f;have h2:=hsz2;omega⟩);refine⟨hBW,hlen2,hln2,hKW,hbW,?_,HBS.out.1,by omega,?_⟩
   · refine(HU1.out.trans (G:=fun k=>k=g2) (⟨hU2.os,hU2.tape,hU2.output,hU2.size,hU2.block⟩:Upd (fun k=>k=g2) w1 w2) (fun _ _ e=>e)).trans (G:=fun k=>k=kb) ((Upd.of_below hb3:Upd (fun k=>k=kb) w2 w3).trans (G:=fun k=>k=kb) hUW (fun _ _ e=>e)) (fun k hk e=>by omega)
   · have ha2:AOwn E w2 (.slice ad na cap) s.arcs:=AOwn.typed HV1.out fun k cur hk=>hU2.block k (Array.getElem?_eq_some_iff.1 hk).1 (fun e=>by
      subst e;obtain⟨es,ck,hob⟩:=HB1.out.mp2.obj;rw[hob]at hk;cases hk)
     exact AOwn.typed (GOwn.below ha2 hb3) fun k cur hk=>hbW3 k (Array.getElem?_eq_some_iff.1 hk).1 (fun e=>by
      subst e;rw[hk3]at hk;simp only[Option.some.injEq,Obj.cells.injEq]at hk;exact absurd hk.2.1 (by decide))
  refine zBy (i:=10) (w':=W) (by kernel_rfl) rfl rfl (by rfl) (by rw[hW];unfold tri;go_simp;first|done|exact rfl) (TriAt.of hbW) (fun _=>?_);refine wpAnyH_done (by kernel_rfl) ?_ _;clear hW hUW hKW hbW hbk hbs3 q0 q1 q2 z0 hk3 hb3 hw3 hkb hB2 hU2 hb2 hS2 hln2 hlen2 hbl2 hsz2 hK
 rotate_left
 focus
  obtain⟨w1a,hw1a⟩:∃w1a,w1a=w1.drew.alloc (.cells #[.bool false,.int .i64 0,.int .i64 0] 191):=⟨_,rfl⟩;have hb1a:Below w1.heap.size w1 w1a:=by rw[hw1a];exact((Below.refl _ w1).drew).alloc (by simp) _
  obtain⟨kb,hkb⟩:∃kb,kb=w1.heap.size:=⟨_,rfl⟩;have hk1:w1a.heap[kb]?=some (.cells #[.bool false,.int .i64 0,.int .i64 0] 191):=by rw[hw1a,hkb];exact zAb _ _
  have hbl1:bs<w1.heap.size:=by have:=HBS.out;omega
  have hB1a:=HB1.out.below hb1a;have hkg2:kb≠g2:=by have:=HB1.out.lt.2.2;omega
  have hkbl:kb<w1a.heap.size:=(Array.getElem?_eq_some_iff.1 hk1).1;have hS1a:TriAt w1a bs (.bool s.final) (.int .i64 s.out) (.slice ad na cap):=(TriAt.of HBX.out).same (hb1a.block bs hbl1);refine wp_val (v := .pointer (some ⟨kb,0,none⟩)) (w':=w1a) (by rw[hw1a,hkb];go_simp;first|done|exact rfl) (hK _ w1a hS1a fun _=>?_);simp only[sZa,sZb,sZc];refine oc 7 w1a 15 108 #[.pointer (some ⟨g,0,none⟩),.slice ad na cap] ?_;refine(zRd A E g g1 g2 E vs b m1 m2 D w1a _ s.arcs hB1a (GOwn.below HV1.out hb1a) HOK.out HL.out).mono ?_;rintro e w2 ⟨ln,m2',D',rfl,hB2,hlen2,_,hln2,hU2⟩;have hbs1a:bs<w1a.heap.size:=Nat.lt_of_lt_of_le hbl1 hb1a.size;have hb2:w2.heap[bs]?=some (.cells #[.bool s.final,.int .i64 s.out,.slice ad na cap] 56):=(hU2.block bs hbs1a HBS.out.2.1).trans ((hb1a.block bs hbl1).trans HBX.out);have hS2:TriAt w2 bs (.bool s.final) (.int .i64 s.out) (.slice ad na cap):=TriAt.of hb2;have hk2:w2.heap[kb]?=some (.cells #[.bool false,.int .i64 0,.int .i64 0] 191):=(hU2.block kb hkbl hkg2).trans hk1;refine⟨_,rfl,hS2,fun _=>?_⟩;simp only[sZa,sZb,sZc];refine tq TriAt.facts 8 16 ?_;simp only[sZa,sZb,sZc];obtain⟨q0,q1,q2⟩:=(TriAt.of hk2).facts;have z0:∀o,w2.frozen? ⟨kb,o,none⟩=false:=fun o=>by simp[World.frozen?,hk2]
  obtain⟨W,hW⟩:∃W,W=tri w2 kb (.bool s.final) (.int .i64 s.out) (.int .i64 ln):=⟨_,rfl⟩;have hUW:=zUh w2 kb (.bool s.final) (.int .i64 s.out) (.int .i64 ln);have hKW:=tri_at hk2 (.bool s.final) (.int .i64 s.out) (.int .i64 ln);rw[←hW]at hUW hKW;have hbk:bs≠kb:=by omega
  have hbs2:bs<w2.heap.size:=hS2.c0 |> zAn
  have hbW:W.heap[bs]?=some (.cells #[.bool s.final,.int .i64 s.out,.slice ad na cap] 56):=(hUW.block bs hbs2 hbk).trans hb2;have hsz1:w.heap.size≤kb:=by have h2:=HBS.out;omega
  have HM:Hid (NumMid A E g g1 g2 vs b m1 m2 s (.slice ad na cap) w W bs kb ln m2' D'):=by
   (have hbW3:∀k,k<w2.heap.size→k≠kb→W.heap[k]?=w2.heap[k]?:=fun k h1 h2=>hUW.block k h1 h2);have hBW:BAt A E W g g1 g2 vs b m1 m2' D':=hB2.keepJ (J:=fun k=>k=kb) hbW3 (fun k e=>⟨fun f=>by have:=HB1.out.fp_lt k f;omega,fun f=>by have h1:=HAL.out k f;have h2:=hsz1;omega⟩);refine⟨hBW,hlen2,hln2,hKW,hbW,?_,HBS.out.1,hsz1,?_⟩
   · have hUa:Upd (fun k=>k=g2) w1 w1a:=Upd.of_below hb1a
     refine((HU1.out.trans (G:=fun k=>k=g2) hUa (fun _ _ e=>e)).trans (G:=fun k=>k=g2) hU2 (fun _ _ e=>e)).trans (G:=fun k=>k=kb) hUW (fun k hk e=>by omega)
   · have ha2:AOwn E w2 (.slice ad na cap) s.arcs:=AOwn.typed (GOwn.below HV1.out hb1a) fun k cur hk=>hU2.block k (Array.getElem?_eq_some_iff.1 hk).1 (fun e=>by
      subst e;obtain⟨es,ck,hob⟩:=hB1a.mp2.obj;rw[hob]at hk;cases hk)
     exact AOwn.typed ha2 fun k cur hk=>hbW3 k (Array.getElem?_eq_some_iff.1 hk).1 (fun e=>by
      subst e;rw[hk2]at hk;simp only[Option.some.injEq,Obj.cells.injEq]at hk;exact absurd hk.2.1 (by decide))
  clear hkb hw1a hk1;refine zBy (i:=10) (w':=W) (by kernel_rfl) rfl rfl (by rfl) (by rw[hW];unfold tri;go_simp;first|done|exact rfl) (TriAt.of hbW) (fun _=>?_);refine wpAnyH_done (by kernel_rfl) ?_ _;clear hW hUW hKW hbW hbk hbs2 q0 q1 q2 z0 hk2 hb1a hB1a hB2 hU2 hb2 hS2 hS1a hln2 hlen2 hbl1 hsz1 hkg2 hkbl hbs1a hK
 all_goals
  have HLN:Hid (zB1 ln):=by
   have h1:=HM.out.at'.li.len;have h2:=(List.getElem?_eq_some_iff.1 HM.out.lnD).1;have h3:=HM.out.len;have h4:=HL.out;constructor<;>omega
  obtain⟨lit,hlit⟩:=key_K (s.final,s.out,ln) HO.out HLN.out;have HLIT:Hid (keyOf Tryz.prog 191 (valK (s.final,s.out,ln))=some lit):=hlit;clear hlit;obtain⟨k0,k1,k2⟩:=(TriAt.of HM.out.key).facts;obtain⟨g0c,g1c,g2c⟩:=HM.out.at'.cells;clear g0c g2c;go_upto_region 2 with fail
  by_cases hex:∃k,((s.final,s.out,ln),k)∈m1
  · obtain⟨k,hk⟩:=hex
    obtain⟨hnum,_⟩:=HM.out.at'.ni.found hk HM.out.lnD
    have hlook:∀nq,(Instr.lookup 93 (.map (some g1)) (.agg #[.bool s.final,.int .i64 s.out,.int .i64 ln]) true).run Tryz.prog (W.drewN nq) = .ok (.tuple #[.int .i64 k,.bool true]) (W.drewN nq):=fun nq=>
     (show KMapAt 191 valK (W.drewN nq) g1 m1 from HM.out.at'.mp1).look_old (x:=(s.final,s.out,ln)) zWq zV4 HLIT.out (fun y hy=>zKj hy) hk (fun k' hk'=>by
      have h1:=(HM.out.at'.ni.found hk' HM.out.lnD).1;rw[hnum]at h1;exact(Prod.mk.inj h1).2.symm)
    (have HEND:Hid (∀nq,NumSays A E g g1 g2 vs b m2 s (.slice ad na cap) w (W.drewN nq) k):=fun nq=>⟨⟨vs,m1,m2',D',by rw[hnum];exact(HM.out.at'.below (belowN (Below.refl _ W) nq)).wide (fun k hk => .inl hk),HM.out.len,(HM.out.upd.mono (fun k hk => .inr (.inr (.inl hk)))).trans (G:=fun _=>False) (Upd.of_below (belowN (Below.refl _ W) nq)) (fun _ _ e=>e.elim),.inl rfl⟩,by rw[hnum]⟩);clear hk hnum;go_quiet (fail);go_wp2;go_ret;exact⟨k,rfl,HEND.out _⟩
  · have HNEW:Hid (∀k,((s.final,s.out,ln),k)∉m1):=fun k hk=>hex ⟨k,hk⟩
    have hlook:∀nq,(Instr.lookup 93 (.map (some g1)) (.agg #[.bool s.final,.int .i64 s.out,.int .i64 ln]) true).run Tryz.prog (W.drewN nq) = .ok (.tuple #[.int .i64 0,.bool false]) (W.drewN nq):=fun nq=>
     (show KMapAt 191 valK (W.drewN nq) g1 m1 from HM.out.at'.mp1).look_new (x:=(s.final,s.out,ln)) zWq zV4 HLIT.out (fun y hy=>zKj hy) HNEW.out
    clear hex;go_quiet (fail);clear hlook;obtain⟨xss,ho,hxl,hxe⟩:=HM.out.at'.row;obtain⟨sd,sc,hvs,_⟩:=ho.shape;rw[hxl]at hvs;obtain⟨nb,hnb⟩:∃nb,b.length=nb:=⟨_,rfl⟩;rw[hnb]at hvs;have HNB:Hid (b.length=nb):=hnb;have g0:=HM.out.at'.cells.1;rw[hvs]at g0;(go_upto_region 5 with fail);obtain⟨W3,hupd,hK3,t1,t2,t3,t4,t5⟩:=(show KMapAt 191 valK (W.drewN nq).drew g1 m1 from HM.out.at'.mp1).store (x:=(s.final,s.out,ln)) zWq zV4 HLIT.out (fun y hy=>zKj hy) HNEW.out nb;have HUPD:Hid ((Instr.mapUpdate 93 (.map (some g1)) (.agg #[.bool s.final,.int .i64 s.out,.int .i64 ln]) (.int .i64 nb)).run Tryz.prog (W.drewN nq).drew = .ok () W3):=hupd;obtain⟨es1,ck1,hob1⟩:=HM.out.at'.mp1.obj;(have hnc:∀{k:Nat} {cur:Array Value} {T:TypeId} {z:Nat×Nat},W.heap[k]?=some (.cells cur T z)→k≠g1:=fun hk e=>by rw[e,hob1]at hk;cases hk);(have e3:∀k,k≠g1→W3.heap[k]?=W.heap[k]?:=fun k hk=>t5 k hk);have hS5:S5 g g1 kb (.bool s.final) (.int .i64 s.out) (.int .i64 ln) W3:=⟨(World.cell?_of_block (a:=⟨g,1,none⟩) (e3 g (hnc HM.out.at'.blk))).trans HM.out.at'.cells.2.1,(TriAt.of HM.out.key).same (e3 kb (hnc HM.out.key))⟩;have hS50:S5 g g1 kb (.bool s.final) (.int .i64 s.out) (.int .i64 ln) (W.drewN nq).drew:=⟨HM.out.at'.cells.2.1,(TriAt.of HM.out.key).same rfl⟩;have HW3:Hid ((∀k,k≠g1→W3.heap[k]?=W.heap[k]?)∧W3.heap.size=W.heap.size∧W3.os=W.os∧W3.tape=W.tape∧W3.output=W.output):=⟨e3,t4,t1,t2,t3⟩;have HK3:Hid (KMapAt 191 valK W3 g1 (m1++[((s.final,s.out,ln),nb)])):=hK3;have hg1g:g≠g1:=hnc HM.out.at'.blk;have hbs1:bs≠g1:=hnc HM.out.box;have HG1:Hid (g≠g1∧bs≠g1):=⟨hg1g,hbs1⟩;(have hvsb:∀k,vs.ownBlock=some k→k<w.heap.size:=fun k hk=>HFP.out k (.inr (.inr (.inr hk))));(have HVSB:Hid (∀k,vs.ownBlock=some k→k<w.heap.size∧k≠g1):=fun k hk=>⟨hvsb k hk,by obtain⟨_,cur,hc⟩:=ho.block hk;exact hnc hc⟩);(have hoW3:GOwn 56 3 E W3 vs xss:=ho.same fun k hk=>e3 k (HVSB.out k hk).2);have HOW3:Hid (GOwn 56 3 E W3 vs xss):=hoW3;have HXS:Hid (GOwn 56 3 E W vs xss∧xss.length=b.length∧∀(i:Nat) (s:St),b[i]?=some s→∃va,xss[i]?=some [.bool s.final,.int .i64 s.out,va]∧AOwn E W va s.arcs∧∀k,va.ownBlock=some k→A k):=⟨ho,hxl,hxe⟩;clear hupd hK3 t1 t2 t3 t4 t5 hob1 hnc e3 k0 k1 k2 g1c g0 hg1g hbs1 hvsb ho hxl hxe hoW3;refine zAh (S:=S5 g g1 kb (.bool s.final) (.int .i64 s.out) (.int .i64 ln)) 7 rfl zAr hS50 (fun hHeld=>?_);refine tq4 S5.facts 0 33 1 34 2 35 3 36 ?_;simp only[sZa,sZb,sZc];refine tq2 S5.facts 4 37 5 38 ?_;simp only[sZa,sZb,sZc];refine zBy (i:=6) (w':=W3) (by kernel_rfl) rfl rfl (by rfl) ((zRv _ _ _ _ _ _ _ _ _ _ _).trans (congrArg (fun r=>Result.andThen r _) HUPD.out)) hS5 (fun _=>?_);refine wpAnyH_done (by kernel_rfl) ?_ _;clear hS5 hS50 hHeld;(go_upto_region 6 with fail);obtain⟨W4,hW4⟩:∃W4,W4=W3.drew.alloc (.cells #[.bool s.final,.int .i64 s.out,.slice ad na cap] 56):=⟨_,rfl⟩;(have hb4:Below W3.heap.size W3 W4:=by rw[hW4];exact((Below.refl _ W3).drew).alloc (by simp) _);(have hn4:W4.heap[W3.heap.size]?=some (.cells #[.bool s.final,.int .i64 s.out,.slice ad na cap] 56):=by rw[hW4];exact zAb _ _);(have hE3:E≤W3.heap.size:=by have h1:=HM.out.at'.lo.1;have h2:=HM.out.at'.lt.1;have h3:=HW3.out.2.1;omega);obtain⟨v5,W5,hap,ho5,hgr,hown5⟩:=zAx rtyS (HOW3.out.below hb4) (Nat.le_trans hE3 hb4.size) (x:=[.bool s.final,.int .i64 s.out,.slice ad na cap]) ⟨rfl,by simp[Value.oneCell']⟩ (nb:=W3.heap.size) (fun j u hj=>by simp only[World.cell?,hn4];simpa using hj) (by have:=HXS.out.2.1;have:=HBL.out;omega) 29 1;(have HAP:Hid ((Builtin.append_ #[29,29] 29 #[.slice sd nb sc,.slice (some ⟨W3.heap.size,0,none⟩) 1 1]).run Tryz.prog W4 = .ok v5 W5):=by show _=_;rw[←hvs];exact hap);(have e5:∀k,k<W3.heap.size→vs.ownBlock≠some k→W5.heap[k]?=W3.heap[k]?:=fun k hk hne=>(hgr.block k (Nat.lt_of_lt_of_le hk hb4.size) (fun e=>hne e.symm)).trans (hb4.block k hk));have hgl:g<W.heap.size:=HM.out.at'.lt.1;have hgne:vs.ownBlock≠some g:=fun e=>by
     obtain⟨_,cur,hc⟩:=HXS.out.1.block e;have:=HM.out.at'.blk;rw[hc]at this;simp only[Option.some.injEq,Obj.cells.injEq]at this;exact absurd this.2.1 (by decide)
    have hbl:bs<W.heap.size:=(Array.getElem?_eq_some_iff.1 HM.out.box).1;(have hbne:vs.ownBlock≠some bs:=fun e=>by have h1:=(HVSB.out bs e).1;have h2:=HM.out.bs0;omega);have eg3:W3.heap[g]?=some (.cells #[vs,.map (some g1),.map (some g2)] 96 (0,0)):=(HW3.out.1 g HG1.out.1).trans HM.out.at'.blk;have eg5:W5.heap[g]?=some (.cells #[vs,.map (some g1),.map (some g2)] 96 (0,0)):=(e5 g (by rw[HW3.out.2.1];exact hgl) hgne).trans eg3;have eb3:W3.heap[bs]?=some (.cells #[.bool s.final,.int .i64 s.out,.slice ad na cap] 56):=(HW3.out.1 bs HG1.out.2).trans HM.out.box;have eb5:W5.heap[bs]?=some (.cells #[.bool s.final,.int .i64 s.out,.slice ad na cap] 56):=(e5 bs (by rw[HW3.out.2.1];exact hbl) hbne).trans eb3;(have hc63:W3.cell? ⟨g,0,none⟩=some (.slice sd nb sc):=by simp[World.cell?,eg3,hvs]);have hS63:S6 g bs (.slice sd nb sc) (.bool s.final) (.int .i64 s.out) (.slice ad na cap) W3.drew:=⟨hc63,(TriAt.of eb3).same rfl⟩;have hS64:S6 g bs (.slice sd nb sc) (.bool s.final) (.int .i64 s.out) (.slice ad na cap) W4:=⟨by rw[hb4.cell (p:=⟨g,0,none⟩) (by rw[HW3.out.2.1];exact hgl)];simp[World.cell?,eg3,hvs],(TriAt.of eb3).same (hb4.block bs (by rw[HW3.out.2.1];exact hbl))⟩;have hS65:S6 g bs (.slice sd nb sc) (.bool s.final) (.int .i64 s.out) (.slice ad na cap) W5:=⟨by simp[World.cell?,eg5,hvs],TriAt.of eb5⟩;have HFIN:Hid (NumSays A E g g1 g2 vs b m2 s (.slice ad na cap) w (W5.setCell ⟨g,0,none⟩ v5) nb):=by
     show NumSays _ _ _ _ _ _ _ _ _ _ _ _ _;(have eg6:(W5.setCell ⟨g,0,none⟩ v5).heap[g]?=some (.cells #[v5,.map (some g1),.map (some g2)] 96 (0,0)):=by rw[zAt eg5 v5];rfl);have hv5g:v5.ownBlock≠some g:=by
      intro e;obtain⟨_,cur,hc⟩:=ho5.block e;rw[eg5]at hc;simp only[Option.some.injEq,Obj.cells.injEq]at hc;exact absurd hc.2.1 (by decide)
     have hsz3:=HW3.out.2.1;have ekeep:∀k,k<W.heap.size→k≠g→k≠g1→vs.ownBlock≠some k→(W5.setCell ⟨g,0,none⟩ v5).heap[k]?=W.heap[k]?:=fun k hk h1 h2 h3=>by
      rw[zAc _ _ _ _ h1,e5 k (by omega) h3,HW3.out.1 k h2]
     have hm6:KMapAt 191 valK (W5.setCell ⟨g,0,none⟩ v5) g1 (m1++[((s.final,s.out,ln),b.length)]):=by
      rw[HNB.out];refine HK3.out.same ?_;rw[zAc _ _ _ _ (Ne.symm HG1.out.1)];(refine e5 g1 HK3.out.lt fun e=>?_);exact(HVSB.out g1 e).2 rfl
     have harc:AOwn E (W5.setCell ⟨g,0,none⟩ v5) (.slice ad na cap) s.arcs:=AOwn.typed HM.out.arcs fun k cur hk=>by
      refine ekeep k (Array.getElem?_eq_some_iff.1 hk).1 (fun e=>?_) (fun e=>?_) (fun e=>?_)
      · subst e
        rw[HM.out.at'.blk]at hk;simp only[Option.some.injEq,Obj.cells.injEq]at hk;exact absurd hk.2.1 (by decide)
      · subst e
        obtain⟨es,ck,hob⟩:=HM.out.at'.mp1.obj;rw[hob]at hk;cases hk
      · obtain⟨_,cur',hc⟩:=HXS.out.1.block e
        rw[hk]at hc;simp only[Option.some.injEq,Obj.cells.injEq]at hc;exact absurd hc.2.1 (by decide)
     have hadd:=HM.out.at'.ni.add HM.out.at'.li.nd HNEW.out HM.out.lnD;have hB6:=HM.out.at'.push HXS.out.1 HXS.out.2.1 HXS.out.2.2 (va := .slice ad na cap) ekeep eg6 hm6 (ho5.same fun k hk=>zAc _ _ _ _ (fun e=>hv5g (e▸hk))) harc HM.out.lnD HNEW.out;refine⟨⟨v5,_,m2',D',by rw[hadd.1];exact hB6,HM.out.len,?_,?_⟩,by rw[hadd.1];exact HNB.out⟩
     · have hU:=HM.out.upd
       have hr5:=zA4 W5 g 0 v5;have hr3:=HW3.out.2.2;refine⟨hr5.1.trans (hgr.os.trans (hb4.os.trans (hr3.1.trans hU.os))),hr5.2.1.trans (hgr.tape.trans (hb4.tape.trans (hr3.2.1.trans hU.tape))),hr5.2.2.1.trans (hgr.output.trans (hb4.output.trans (hr3.2.2.trans hU.output))),?_,fun k hk hF=>?_⟩
       · have h1:=hr5.2.2.2
         have h2:=hgr.size;have h3:=hb4.size;have h4:=hU.size;omega
       · rw[ekeep k (Nat.lt_of_lt_of_le hk hU.size) (fun e=>hF (.inl e)) (fun e=>hF (.inr (.inl e))) (fun e=>hF (.inr (.inr (.inr e))))]
         exact hU.block k hk (fun e=>hF (.inr (.inr (.inl e))))
     · rcases hown5 with h|⟨j,h1,h2⟩
       · exact .inl h
       · exact .inr ⟨j,h1,by have h3:=hb4.size;have h4:=HM.out.upd.size;omega⟩
    have hg5:W5.cell? ⟨g,0,none⟩=some (.slice sd nb sc):=hS65.c;(have hz5:W5.frozen? ⟨g,0,none⟩=false:=by simp[World.frozen?,eg5]);obtain⟨vd,vc,hv5s,_⟩:=ho5.shape;rw[List.length_append,HXS.out.2.1,HNB.out]at hv5s;subst hv5s;clear hc63 hap ho5 hgr hown5 e5 hgl hgne hbl hbne eg3 eg5 eb3 eb5 hn4 hE3;refine zBd (S:=S6 g bs (.slice sd nb sc) (.bool s.final) (.int .i64 s.out) (.slice ad na cap)) 11 10 rfl zAr ?_;refine te4 S6.facts 0 39 1 40 2 41 3 42 ?_;simp only[sZa,sZb,sZc];refine te2 S6.facts 4 43 5 44 ?_;simp only[sZa,sZb,sZc];refine zAg (i:=6) (v := .slice (some ⟨W3.heap.size,0,none⟩) 1 1) (w':=W4) 45 (by kernel_rfl) rfl rfl (by rfl) (by rw[hW4];go_simp;first|done|exact rfl) hS64 ?_;simp only[sZa,sZb,sZc];refine zAg (i:=7) (v := .slice vd (nb+[[Value.bool s.final,.int .i64 s.out,.slice ad na cap]].length) vc) (w':=W5) 46 (by kernel_rfl) rfl rfl (by rfl) (zCj HAP.out) hS65 ?_;simp only[sZa,sZb,sZc];refine zAg (i:=8) (v := .pointer (some ⟨g,0,none⟩)) (w':=W5) 47 (by kernel_rfl) rfl rfl (by rfl) (by kernel_rfl) hS65 ?_;simp only[sZa,sZb,sZc];refine zAg (i:=9) (v := .pointer (some ⟨g,0,none⟩)) (w':=W5) 48 (by kernel_rfl) rfl rfl (by rfl) (by kernel_rfl) hS65 ?_;simp only[sZa,sZb,sZc];clear hS63 hS64 hS65 hb4 hW4;refine zA6 (w':=W5.setCell ⟨g,0,none⟩ (.slice vd (nb+[[Value.bool s.final,.int .i64 s.out,.slice ad na cap]].length) vc)) (by kernel_rfl) rfl rfl (by rfl) (by go_simp;first|done|exact rfl) (by kernel_rfl) ?_;go_wp2;go_ret;exact⟨nb,rfl,HFIN.out⟩
structure StSays(A:Nat→Prop)(E g g1 g2:Nat)(vs:Value)(b:List St)(m2:List (LK×Nat))(f:Nat)(S:List En)(w w':World)(n:Nat):Prop where
 ex:∃A' vs' m1' m2' D',BAt A' E w' g g1 g2 vs' (stF f b S).1 m1' m2' D'∧m2'.length≤m2.length+bulk S∧Upd (fpB g g1 g2 vs) w w'∧(vs'.ownBlock=vs.ownBlock∨∃j,vs'.ownBlock=some j∧w.heap.size≤j)∧(∀k,A' k→A k∨w.heap.size≤k)∧∀k,A' k→k<w'.heap.size
 num:(stF f b S).2=n
structure EnOk(l:List En):Prop where
 wt:∀e∈l,1≤e.2∧e.2≤1048576
 rn:∀e∈l,∀c∈e.1,zIy c
 ln:∀e∈l,e.1.length≤24
theorem EnOk.sub{l l':List En}(h:EnOk l)(hs:∀e∈l',e∈l):EnOk l':=⟨fun e he=>h.wt e (hs e he),fun e he=>h.rn e (hs e he),fun e he=>h.ln e (hs e he)⟩
structure SLoop(A:Nat→Prop)(E g g1 g2:Nat)(vs:Value)(b:List St)(m2:List (LK×Nat))(f k:Nat)(base:Int)(fin:Bool)(out:Int)(T0:List En)(bs:Nat)(w1 wr:World)(s1:Value)(T:List En)(acc:List Arc)(A':Nat→Prop)(vs':Value)(b':List St)(m1':List (SK×Nat))(m2':List (LK×Nat))(D':List (List Arc))(va:Value):Prop where
 row:ERow E wr s1 T
 at':BAt A' E wr g g1 g2 vs' b' m1' m2' D'
 box:wr.heap[bs]?=some (.cells #[.bool fin,.int .i64 out,va] 56)
 arcs:AOwn E wr va acc
 apart:∀j,va.ownBlock=some j→w1.heap.size≤j∧¬A' j
 eq1:(arF (stF f) base b' (grp (cut k T))).1=(arF (stF f) base b (grp (cut k T0))).1
 eq2:acc++(arF (stF f) base b' (grp (cut k T))).2=(arF (stF f) base b (grp (cut k T0))).2
 n1:m2'.length+acc.length+bulk (cut k T)≤m2.length+bulk (cut k T0)
 n2:b'.length+acc.length+bulk (cut k T)≤b.length+bulk (cut k T0)
 n3:T=T0∨0<acc.length
 n4:acc.length+T.length≤T0.length
 ne:∀e∈cut k T,e.1≠[]
 ok:∀p∈grp (cut k T),Ok f p.2
 oka:∀a∈acc,zYy a
 sub:∀e∈T,e∈T0
 upd:Upd (fun j=>fpB g g1 g2 vs j∨j=bs) w1 wr
 own:vs'.ownBlock=vs.ownBlock∨∃j,vs'.ownBlock=some j∧w1.heap.size≤j
 as1:∀j,A' j→A j∨w1.heap.size≤j
 as2:∀j,A' j→j<wr.heap.size
def S4E(ge oe:Nat)(n:Int)(w:World):Prop:=w.cell? ⟨ge,oe+1,none⟩=some (.int .i64 n)
theorem S4E.facts{ge oe:Nat}{n:Int}{w:World}(h:S4E ge oe n w):w.cell? ⟨ge,oe+1,none⟩=some (.int .i64 n):=h
structure S8(bs:Nat)(va:Value)(ge oe gr o n c:Nat)(k:Nat)(ch:Int)(w:World):Prop where
 b:w.cell? ⟨bs,2,none⟩=some va
 e:w.cell? ⟨ge,oe,none⟩=some (.slice (some ⟨gr,o,none⟩) n c)
 r:w.cell? ⟨gr,o+k,none⟩=some (.int .i32 ch)
theorem S8.facts{bs:Nat}{va:Value}{ge oe gr o n c:Nat}{k:Nat}{ch:Int}{w:World}(h:S8 bs va ge oe gr o n c k ch w):w.cell? ⟨bs,2,none⟩=some va∧w.cell? ⟨ge,oe,none⟩=some (.slice (some ⟨gr,o,none⟩) n c)∧w.cell? ⟨gr,o+k,none⟩=some (.int .i32 ch):=⟨h.b,h.e,h.r⟩
theorem RunesAt.low{E:Nat}{w:World}{g o n cap:Nat}{xs:List Int}(h:RunesAt E w (.slice (some ⟨g,o,none⟩) n cap) xs)(h0:0<xs.length):g<E:=by
 obtain⟨ad',cap',e,hc⟩:=h;simp only[Value.slice.injEq]at e;obtain⟨rfl,_,rfl⟩:=e;obtain⟨g',off,e,hg,_⟩:=hc h0;simp only[Option.some.injEq,Addr.mk.injEq]at e;omega
theorem ERow.take{E:Nat}{w:World}{ge oe n cap m:Nat}{l:List En}(h:ERow E w (.slice (some ⟨ge,oe,none⟩) n cap) l)(hm:m≤n)(hm0:0<m):ERow E w (.slice (some ⟨ge,oe,none⟩) m cap) (l.take m):=by
 have hn:n=l.length:=by obtain⟨_,_,e,_⟩:=h;simp only[Value.slice.injEq]at e;exact e.2.1
 obtain⟨g',o',e',hg,hc,hx⟩:=h.at (by omega);simp only[Option.some.injEq,Addr.mk.injEq]at e';obtain⟨rfl,rfl,_⟩:=e';refine⟨_,cap,by rw[List.length_take,Nat.min_eq_left (by omega)],by rw[List.length_take];omega,fun _=>⟨ge,oe,rfl,hg,fun i e hi=>hx i e ?_⟩⟩;rw[List.getElem?_take]at hi
 split at hi
 · exact hi
 · cases hi
theorem ERow.drop{E:Nat}{w:World}{ge oe n cap m:Nat}{l:List En}{ad:Option Addr}(h:ERow E w (.slice (some ⟨ge,oe,none⟩) n cap) l)(hm:m≤n)(hm0:0<n)(had:m=n∨ad=some ⟨ge,oe+m*2,none⟩):ERow E w (.slice ad (n-m) (cap-m)) (l.drop m):=by
 have hn:n=l.length:=by obtain⟨_,_,e,_⟩:=h;simp only[Value.slice.injEq]at e;exact e.2.1
 obtain⟨g',o',e',hg,hc,hx⟩:=h.at hm0;simp only[Option.some.injEq,Addr.mk.injEq]at e';obtain⟨rfl,rfl,_⟩:=e';refine⟨ad,cap-m,by rw[List.length_drop,hn],by rw[List.length_drop];omega,fun h0=>?_⟩;rw[List.length_drop]at h0;refine⟨ge,oe+m*2,had.resolve_left (by omega),hg,fun i e hi=>?_⟩;rw[List.getElem?_drop]at hi;have:=hx (m+i) e hi
 rwa [Nat.add_mul,←Nat.add_assoc]at this
end
