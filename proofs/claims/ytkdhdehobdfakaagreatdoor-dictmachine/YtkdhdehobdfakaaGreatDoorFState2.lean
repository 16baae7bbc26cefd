import Derived.Test.YtkdhdehobdfakaaGreatDoorJ14
namespace Go.Proofs.YtkdhdehobdfakaaGreatDoor
open Go.RowKit Nums Fm
set_option maxRecDepth 100000
structure SFix(A:Nat→Prop)(E g g1 g2:Nat)(vs:Value)(b:List St)(m2:List (LK×Nat))(f k:Nat)(base:Int)(fin:Bool)(out:Int)(l T0:List En)(bs:Nat)(w w1:World):Prop where
 eq:stF (f+1) b (cut k l)=zDg (arF (stF f) base b (grp (cut k T0))).1 ⟨fin,out,(arF (stF f) base b (grp (cut k T0))).2⟩
 n0:bulk (cut k T0)≤bulk (cut k l)
 n2:fin=true→bulk (cut k T0)+1≤bulk (cut k l)
 t0:fin=false→T0≠[]
 len:T0.length≤4096
 k100:k+f+1≤100
 ok:EnOk T0
 s1:m2.length+bulk (cut k l)<549755813888
 s2:b.length+bulk (cut k l)<549755813888
 fbase:1≤base∧base≤1048576
 fout:zB1 out
 fbs:bs=w.heap.size
 fw1:Below w.heap.size w w1
 w1s:w1.heap.size=bs+1
 al:∀j,A j→j<w.heap.size
 fp:∀j,fpB g g1 g2 vs j→j<w.heap.size
 fE:E≤w.heap.size
theorem SFix.done{A:Nat→Prop}{E g g1 g2:Nat}{vs:Value}{b:List St}{m2:List (LK×Nat)}{f k:Nat}{base:Int}{fin:Bool}{out:Int}{l T0:List En}{bs:Nat}{w w1:World}(F:SFix A E g g1 g2 vs b m2 f k base fin out l T0 bs w w1)
 {wr:World} {s1:Value} {acc:List Arc} {A':Nat→Prop} {vs':Value} {b':List St} {m1':List (SK×Nat)} {m2':List (LK×Nat)} {D':List (List Arc)} {va:Value} (H:SLoop A E g g1 g2 vs b m2 f k base fin out T0 bs w1 wr s1 [] acc A' vs' b' m1' m2' D' va):
 m2'.length+acc.length≤m2.length+bulk (cut k l)∧b'.length+1≤b.length+bulk (cut k l)∧∀(w':World) (n:Nat),NumSays A' E g g1 g2 vs' b' m2' ⟨fin,out,acc⟩ va wr w' n→StSays A E g g1 g2 vs b m2 (f+1) (cut k l) w w' n:=by
 have e1:b'=(arF (stF f) base b (grp (cut k T0))).1:=H.eq1;have e2:acc=(arF (stF f) base b (grp (cut k T0))).2:=by have:=H.eq2;simpa[cut,grp,arF]using this
 have hn1:=H.n1;have hn2:=H.n2;have hb0:bulk (cut k [])=0:=rfl;rw[hb0]at hn1 hn2;have hF0:=F.n0;refine⟨by omega,?_,fun w' n hN=>?_⟩
 · cases hfin:fin with
   |true=>have:=F.n2 hfin;omega
   |false=>
    have h1:=F.t0 hfin;rcases H.n3 with h2|h2
    · exact absurd h2.symm h1
    · omega
 · obtain⟨⟨vs'',m1'',m2'',D'',h1,h2,h3,h4⟩,hn⟩:=hN
   (have hst:stF (f+1) b (cut k l)=zDg b' ⟨fin,out,acc⟩:=by rw[F.eq,←e1,←e2]);have hU:Upd (fpB g g1 g2 vs) w wr:=by
    have:=F.fw1.size;refine(Upd.of_below F.fw1:Upd (fpB g g1 g2 vs) w w1).trans H.upd (fun j hj hf=>?_);rcases hf with hf|hf
    · exact hf
    · have:=F.fbs;omega
   have hw1r:=H.upd.size;have hw1:=F.fw1.size;refine⟨⟨_,vs'',m1'',m2'',D'',by rw[hst];exact h1,by simp only at h2;omega,hU.trans h3 (fun j hj hf=>?_),?_,fun j hj=>?_,fun j hj=>?_⟩,by rw[hst];exact hn⟩
   · rcases hf with hf|hf|hf|hf
     · exact .inl hf
     · exact .inr (.inl hf)
     · exact .inr (.inr (.inl hf))
     · rcases H.own with ho|⟨q,ho,hq⟩
       · exact .inr (.inr (.inr (ho▸hf)))
       · rw[ho]at hf;cases hf;omega
   · rcases h4 with h4|⟨q,h4,hq⟩
     · rcases H.own with ho|⟨q,ho,hq⟩
       · exact .inl (h4.trans ho)
       · exact .inr ⟨q,h4.trans ho,by omega⟩
     · exact .inr ⟨q,h4,by omega⟩
   · rcases hj with hj|hj
     · rcases H.as1 j hj with h|h
       · exact .inl h
       · exact .inr (by omega)
     · exact .inr (by have:=(H.apart j hj).1;omega)
   · have h5:=h3.size
     rcases hj with hj|hj
     · have:=H.as2 j hj;omega
     · have:=GOwn.lt H.arcs hj;omega
theorem zTu{k:Nat}{l:List En}(h:0<l.length):bulk (cut k (l.drop 1))+1≤bulk (cut k l):=by
 cases l with
 |nil=>simp at h
 |cons e r=>
  rw[zC2,zEk];simp only[List.drop_succ_cons,List.drop_zero];omega
set_option maxHeartbeats 4000000 in
theorem zUr:∀(f:Nat) (A:Nat→Prop) (E g g1 g2:Nat) (vs:Value) (b:List St) (m1:List (SK×Nat)) (m2:List (LK×Nat)) (D:List (List Arc)) (w:World) (v:Value) (l:List En) (k:Nat),BAt A E w g g1 g2 vs b m1 m2 D→ERow E w v l→Ok f (cut k l)→EnOk l→l.length≤4096→(∀e∈l,k≤e.1.length)→k+f≤100 →
 m2.length+bulk (cut k l)<549755813888→b.length+bulk (cut k l)<549755813888→(∀j,A j→j<w.heap.size) →
 Calls Tryz.prog 37 #[.pointer (some ⟨g,0,none⟩),v,.int .i64 k] w fun e w'=>∃n:Nat,e = .returned (.int .i64 n)∧StSays A E g g1 g2 vs b m2 f (cut k l) w w' n:=by
 intro f
 induction f with
 |zero=>intro A E g g1 g2 vs b m1 m2 D w v l k _ _ h;exact h.elim
 |succ f ih=>
 intro A E g g1 g2 vs b m1 m2 D w v l k hB hR hOk hEn hl hkl hkf hs1 hs2 hal;have IH:Hid _:=ih;clear ih;obtain⟨ad,cap,rfl,hcap⟩:=hR.form;obtain⟨hne,hok1,hok2⟩:=hOk;have hln:0<l.length:=by rw[←zPn k];exact List.length_pos_iff.2 hne
 obtain⟨e0,he0⟩:∃e0,l[0]?=some e0:=⟨l[0],List.getElem?_eq_getElem _⟩;obtain⟨nl,hnl⟩:∃nl,l.length=nl:=⟨_,rfl⟩;have HNL:Hid (l.length=nl):=hnl;rw[hnl]at hR hcap hln hl ⊢;obtain⟨ge,oe,rfl,hge,_,hx⟩:=hR.at hln;obtain⟨u0,hu0⟩:=hx 0 e0 he0;obtain⟨c0,c1,hr0⟩:=hu0;obtain⟨ra0,rc0,rfl,_⟩:=hr0;rw[Nat.zero_mul,Nat.add_zero]at c0 c1;obtain⟨n0,hn0⟩:∃n0,e0.1.length=n0:=⟨_,rfl⟩;rw[hn0]at c0;obtain⟨wt,hwt⟩:∃wt,e0.2=wt:=⟨_,rfl⟩;rw[hwt]at c1;obtain⟨base,hbase⟩:∃base,least l=base:=⟨_,rfl⟩;have hl0:l≠[]:=fun e=>by rw[e]at he0;simp at he0
 have hbb:1≤base∧base≤1048576:=by rw[←hbase];exact zLi hl0 hEn.wt
 have hwb:1≤wt∧wt≤1048576:=by rw[←hwt];exact hEn.wt e0 (List.mem_of_getElem? he0)
 have hE:E≤w.heap.size:=by have h1:=hB.lo.1;have h2:=hB.lt.1;omega
 obtain⟨bs,hbs⟩:∃bs,bs=w.heap.size:=⟨_,rfl⟩;obtain⟨w1,hw1⟩:∃w1,w1=w.alloc (.cells #[.bool false,.int .i64 0,.slice none 0 0] 56):=⟨_,rfl⟩;have hb1:Below w.heap.size w w1:=by rw[hw1];exact(Below.refl _ w).alloc (Nat.le_refl _) _
 have hbox1:w1.heap[bs]?=some (.cells #[.bool false,.int .i64 0,.slice none 0 0] 56):=by rw[hw1,hbs];exact zAb _ _
 have hw1s:w1.heap.size=bs+1:=by rw[hw1,hbs];simp
 have HLS:Hid (Calls Tryz.prog 38 #[.slice (some ⟨ge,oe,none⟩) nl cap] w1 fun e w'=>e = .returned (.int .i64 base)∧Below w1.heap.size w1 w'):=by
  have:=zIb E w1 _ l (hR.below (hb1.mono hE)) (by omega) (by omega) (by omega);rw[hbase]at this;exact this
 have hfc:=fin_cut he0 (hkl e0 (List.mem_of_getElem? he0));rw[hn0,hbase,hwt]at hfc;have HB:Hid (BAt A E w g g1 g2 vs b m1 m2 D):=hB;have HR:Hid (ERow E w (.slice (some ⟨ge,oe,none⟩) nl cap) l):=hR;have HB1:Hid (Below w.heap.size w w1∧w1.heap[bs]?=some (.cells #[.bool false,.int .i64 0,.slice none 0 0] 56)∧w1.heap.size=bs+1∧bs=w.heap.size):=⟨hb1,hbox1,hw1s,hbs⟩;have HEn:Hid (EnOk l):=hEn;have HK1:Hid (∀e∈zAj (cut k l),e.1≠[]):=hok1;have HK2:Hid (∀p∈grp (zAj (cut k l)),Ok f p.2):=hok2;have HS12:Hid (m2.length+bulk (cut k l)<549755813888∧b.length+bulk (cut k l)<549755813888):=⟨hs1,hs2⟩;have HAL0:Hid (∀j,A j→j<w.heap.size):=hal;have HFC:Hid ((n0=k→zCw (cut k l)=true∧zAj (cut k l)=cut k (l.drop 1)∧zCi (cut k l)=wt-base)∧(n0≠k→zCw (cut k l)=false∧zAj (cut k l)=cut k l∧zCi (cut k l)=0)):=hfc;have HBASE:Hid (least l=base):=hbase;clear hB hR hEn hok1 hok2 hs1 hs2 hal hfc hb1 hbox1 hne hx he0 hkl hn0 hwt hbase hl0 hnl;go_enter Tryz.func37,Tryz.ntmps37;go_upto_region 2 with fail
 rw[←hw1,←hbs];clear hw1 hbs;go_upto_region 3 with(go_at_call 38;refine HLS.out.mono ?_;rintro e w2 ⟨rfl,hb2⟩)
 have hb02:Below w.heap.size w w2:=HB1.out.1.trans (hb2.mono HB1.out.1.size);have hgew:ge<w.heap.size:=by omega
 have c0':w2.cell? ⟨ge,oe,none⟩=some (.slice ra0 n0 rc0):=(hb02.cell (p:=⟨ge,oe,none⟩) hgew).trans c0;have c1':w2.cell? ⟨ge,oe+1,none⟩=some (.int .i64 wt):=(hb02.cell (p:=⟨ge,oe+1,none⟩) hgew).trans c1;have hbox2:w2.heap[bs]?=some (.cells #[.bool false,.int .i64 0,.slice none 0 0] 56):=(hb2.block bs (by omega)).trans HB1.out.2.1;have HB2:Hid (Below w1.heap.size w1 w2):=hb2;have HB02:Hid (Below w.heap.size w w2):=hb02;have HBX2:Hid (w2.heap[bs]?=some (.cells #[.bool false,.int .i64 0,.slice none 0 0] 56)):=hbox2;have h0z:(0:Int)<(nl:Int):=by omega
 clear hb2 hb02 hbox2 c0 c1;by_cases hfin:n0=k
 focus
  have hfb:((n0:Int)==(k:Int))=true:=beq_iff_eq.2 (by omega);obtain⟨fc1,fc2,fc3⟩:=HFC.out.1 hfin;obtain⟨fin,hfe⟩:∃fin,fin=true:=⟨_,rfl⟩;obtain⟨out,hoe⟩:∃out:Int,out=wt-base:=⟨_,rfl⟩;obtain⟨T0,hT0⟩:∃T0,T0=l.drop 1:=⟨_,rfl⟩;have hwr:IntKind.i64.wrap (wt-base)=wt-base:=by rw[IntKind.wrap_i64];omega
  have F:Hid (SFix A E g g1 g2 vs b m2 f k base fin out l T0 bs w w1):=by
   have h12:=HS12.out;have hd1:=zTu (k:=k) (l:=l) (by have:=HNL.out;omega);show SFix _ _ _ _ _ _ _ _ _ _ _ _ _ _ _ _ _ _;rw[hT0];refine⟨?_,by omega,fun _=>hd1,fun h=>?_,by rw[List.length_drop,HNL.out];omega,by omega,HEn.out.sub (fun e he=>List.mem_of_mem_drop he),h12.1,h12.2,hbb,?_,HB1.out.2.2.2,HB1.out.1,HB1.out.2.2.1,HAL0.out,HB.out.fp_lt,hE⟩
   · rw[stF,fc1,fc2,fc3,zF1,HBASE.out,hfe,hoe]
   · rw[hfe]at h;cases h
   · rw[hoe];constructor<;>omega
  have hbsE:ge≠bs:=by have:=HB1.out.2.2.2;omega
  have hbl2:bs<w2.heap.size:=(Array.getElem?_eq_some_iff.1 HBX2.out).1;obtain⟨b0,b1,b2⟩:=(TriAt.of HBX2.out).facts;have hz:∀o,w2.frozen? ⟨bs,o,none⟩=false:=fun o=>by simp[World.frozen?,HBX2.out]
  obtain⟨W3,hW3⟩:∃W3,W3=(w2.drew.setCell ⟨bs,0,none⟩ (.bool true)).setCell ⟨bs,1,none⟩ (.int .i64 (wt-base)):=⟨_,rfl⟩;have hS0:S4E ge oe wt w2.drew:=c1';have hS1:S4E ge oe wt (w2.drew.setCell ⟨bs,0,none⟩ (.bool true)):=(World.cell?_of_block (a:=⟨ge,oe+1,none⟩) (zAc _ _ _ _ hbsE)).trans c1';have hS2:S4E ge oe wt W3:=by rw[hW3];exact(World.cell?_of_block (a:=⟨ge,oe+1,none⟩) (zAc _ _ _ _ hbsE)).trans hS1
  have HST:Hid (∀(ad:Option Addr),(nl=1∨ad=some ⟨ge,oe+2,none⟩)→∃(T:List En) (acc:List Arc) (A':Nat→Prop) (vs':Value) (b':List St) (m1':List (SK×Nat)) (m2':List (LK×Nat)) (D':List (List Arc)) (va:Value) (ad2:Option Addr) (nT cT:Nat),Value.slice ad (nl-1) (cap-1) = .slice ad2 nT cT∧nT≤4096∧nT≤cT∧nT≤4096∧Hid (T.length=nT)∧Hid (SLoop A E g g1 g2 vs b m2 f k base fin out T0 bs w1 W3 (Value.slice ad (nl-1) (cap-1)) T acc A' vs' b' m1' m2' D' va)):=by
   intro ad had;rw[hT0];have hsz:=HB02.out.size;have hr1:=zA4 w2.drew bs 0 (.bool true);have hr2:=zA4 (w2.drew.setCell ⟨bs,0,none⟩ (.bool true)) bs 1 (.int .i64 (wt-base));rw[←hW3]at hr2;(have he3:∀j,j≠bs→W3.heap[j]?=w2.heap[j]?:=fun j hj=>by rw[hW3,zAc _ _ _ _ hj,zAc _ _ _ _ hj];rfl);have hbx3:W3.heap[bs]?=some (.cells #[.bool true,.int .i64 (wt-base),.slice none 0 0] 56):=by
    rw[hW3,zAt (zAt (show w2.drew.heap[bs]?=_ from HBX2.out) _) _];rfl
   have hsz3:W3.heap.size=w2.heap.size:=hr2.2.2.2.trans hr1.2.2.2;have hb3:Below w.heap.size w W3:=⟨hr2.1.trans (hr1.1.trans HB02.out.os),hr2.2.1.trans (hr1.2.1.trans HB02.out.tape),hr2.2.2.1.trans (hr1.2.2.1.trans HB02.out.output),by omega,fun j hj=>(he3 j (by have:=HB1.out.2.2.2;omega)).trans (HB02.out.block j hj)⟩;refine⟨l.drop 1,[],A,vs,b,m1,m2,D,.slice none 0 0,_,_,_,rfl,by omega,by omega,by omega,?_,?_⟩
   · show _=_
     rw[List.length_drop,HNL.out]
   · show SLoop _ _ _ _ _ _ _ _ _ _ _ _ _ _ _ _ _ _ _ _ _ _ _ _ _ _ _
     exact⟨(HR.out.below (hb3.mono hE)).drop (by omega) hln (by rcases had with h|h;exact .inl h.symm;exact .inr (by rw[h])),HB.out.below hb3,by rw[hfe,hoe];exact hbx3,GOwn.nil _ _ _ _,(fun j hj=>by cases hj),rfl,rfl,by simp,by simp,.inl rfl,by simp,by rw[←fc2];exact HK1.out,by rw[←fc2];exact HK2.out,(fun a ha=>by cases ha),fun e he=>he,(Upd.of_below HB2.out:Upd (fun j=>fpB g g1 g2 vs j∨j=bs) w1 w2).trans (G:=fun j=>j=bs) ⟨hr2.1.trans hr1.1,hr2.2.1.trans hr1.2.1,hr2.2.2.1.trans hr1.2.2.1,by omega,fun j _ hj=>he3 j hj⟩ (fun j _ h => .inr h),.inl rfl,fun j hj => .inl hj,fun j hj=>by have:=HAL0.out j hj;omega⟩
  clear hT0 hfe hoe fc1 fc2 fc3;go_upto_region 4 with fail
  refine zAh (S:=S4E ge oe wt) 10 rfl zAr hS0 (fun _=>?_);refine tq4 S4E.facts 0 19 1 20 2 21 3 22 ?_;simp only[sZa,sZb,sZc];refine tq2 S4E.facts 4 23 5 24 ?_;simp only[sZa,sZb,sZc];refine tq S4E.facts 6 25 ?_;simp only[sZa,sZb,sZc];refine zBy (i:=7) (w':=w2.drew.setCell ⟨bs,0,none⟩ (.bool true)) (by kernel_rfl) rfl rfl (by rfl) (by go_simp;first|done|exact rfl) hS1 (fun _=>?_);refine tq S4E.facts 8 26 ?_;simp only[sZa,sZb,sZc];refine zBy (i:=9) (w':=W3) (by kernel_rfl) rfl rfl (by rfl) (by rw[hW3];go_simp;first|done|exact rfl) hS2 (fun _=>?_);refine wpAnyH_done (by kernel_rfl) ?_ _;clear hS0 hS1 hS2 hW3 b0 b1 b2 hz c0' c1' hbl2;by_cases hc1:cap=1
  focus
   subst hc1;(have hnl1:nl=1:=by omega);subst hnl1;have HST0:Hid _:=HST.out (some ⟨ge,oe,none⟩) (.inl rfl);clear HST;have HST:Hid _:=HST0.out;clear HST0;go_wp2
  rotate_left
  focus
   (have hc1z:¬(cap:Int)=1:=by omega);have HST0:Hid _:=HST.out (some ⟨ge,oe+2,none⟩) (.inr rfl);clear HST;have HST:Hid _:=HST0.out;clear HST0;go_wp2
 rotate_left 2
 focus
  have hfb:((n0:Int)==(k:Int))=false:=beq_eq_false_iff_ne.2 (by omega);obtain⟨fc1,fc2,fc3⟩:=HFC.out.2 hfin;obtain⟨fin,hfe⟩:∃fin,fin=false:=⟨_,rfl⟩;obtain⟨out,hoe⟩:∃out:Int,out=0:=⟨_,rfl⟩;obtain⟨T0,hT0⟩:∃T0,T0=l:=⟨_,rfl⟩;have F:Hid (SFix A E g g1 g2 vs b m2 f k base fin out l T0 bs w w1):=by
   have h12:=HS12.out;show SFix _ _ _ _ _ _ _ _ _ _ _ _ _ _ _ _ _ _;rw[hT0];refine⟨?_,Nat.le_refl _,fun h=>?_,fun _ e=>?_,by have:=HNL.out;omega,by omega,HEn.out,h12.1,h12.2,hbb,?_,HB1.out.2.2.2,HB1.out.1,HB1.out.2.2.1,HAL0.out,HB.out.fp_lt,hE⟩
   · rw[stF,fc1,fc2,fc3,zF1,HBASE.out,hfe,hoe]
   · rw[hfe]at h;cases h
   · rw[e]at HNL;have:=HNL.out;simp at this;omega
   · rw[hoe];constructor<;>omega
  have HST:Hid (∃(T:List En) (acc:List Arc) (A':Nat→Prop) (vs':Value) (b':List St) (m1':List (SK×Nat)) (m2':List (LK×Nat)) (D':List (List Arc)) (va:Value) (ad:Option Addr) (nT cT:Nat),Value.slice (some ⟨ge,oe,none⟩) nl cap = .slice ad nT cT∧nT≤4096∧nT≤cT∧nT≤4096∧Hid (T.length=nT)∧Hid (SLoop A E g g1 g2 vs b m2 f k base fin out T0 bs w1 w2 (Value.slice (some ⟨ge,oe,none⟩) nl cap) T acc A' vs' b' m1' m2' D' va)):=by
   rw[hT0];have hsz:=HB02.out.size;refine⟨l,[],A,vs,b,m1,m2,D,.slice none 0 0,_,nl,cap,rfl,by omega,hcap,by omega,HNL,?_⟩;show SLoop _ _ _ _ _ _ _ _ _ _ _ _ _ _ _ _ _ _ _ _ _ _ _ _ _ _ _;exact⟨HR.out.below (HB02.out.mono hE),HB.out.below HB02.out,by rw[hfe,hoe];exact HBX2.out,GOwn.nil _ _ _ _,(fun j hj=>by cases hj),rfl,rfl,by simp,by simp,.inl rfl,by simp,by rw[←fc2];exact HK1.out,by rw[←fc2];exact HK2.out,(fun a ha=>by cases ha),fun e he=>he,Upd.of_below HB2.out,.inl rfl,fun j hj => .inl hj,fun j hj=>by have:=HAL0.out j hj;omega⟩
  clear hT0 hfe hoe fc1 fc2 fc3;go_wp2
 all_goals
  go_loopg [1,9] 4096 (fun gm s1 _ wr=>∃(T:List En) (acc:List Arc) (A':Nat→Prop) (vs':Value) (b':List St) (m1':List (SK×Nat)) (m2':List (LK×Nat)) (D':List (List Arc)) (va:Value) (ad:Option Addr) (nT cT:Nat),s1 = .slice ad nT cT∧nT≤gm∧nT≤cT∧nT≤4096∧Hid (T.length=nT)∧Hid (SLoop A E g g1 g2 vs b m2 f k base fin out T0 bs w1 wr s1 T acc A' vs' b' m1' m2' D' va))
  case atStart=>exact HST.out
  case round=>
   clear HST;obtain⟨T,acc,A',vs',b',m1',m2',D',va,ad,nT,cT,rfl,hgm,hcT,hn4096,HNT,HS⟩:=hrel;by_cases h0:0<nT
   · have h0z:(0:Int)<(nT:Int):=by omega
     obtain⟨e0,he0⟩:∃e0,T[0]?=some e0:=⟨T[0]'(by have:=HNT.out;omega),List.getElem?_eq_getElem _⟩;obtain⟨ge,oe,rfl,hge,_,hx⟩:=HS.out.row.at h0;obtain⟨u0,hu0⟩:=hx 0 e0 he0;obtain⟨c0,c1,hr0⟩:=hu0;obtain⟨ra0,rc0,rfl,_⟩:=id hr0;have hTk:∀e∈T,k<e.1.length:=fun e he=>by
      have:=HS.out.ne (e.1.drop k,e.2) (List.mem_map.2 ⟨e,he,rfl⟩);simp only[ne_eq,List.drop_eq_nil_iff]at this;omega
     have hk0:k<e0.1.length:=hTk e0 (List.mem_of_getElem? he0);obtain⟨gr,o,rfl,_,d0⟩:=hr0.get hk0;have HGR:Hid (gr<E):=hr0.low (by omega);rw[Nat.zero_mul,Nat.add_zero]at c0;obtain⟨n0,hn0⟩:∃n0,e0.1.length=n0:=⟨_,rfl⟩;rw[hn0]at c0 hk0;(have hk0z:(k:Int)<(n0:Int):=by omega);obtain⟨ch,hch⟩:∃ch,hd (e0.1.drop k,e0.2)=ch:=⟨_,rfl⟩;(have d0':wr.cell? ⟨gr,o+k,none⟩=some (.int .i32 ch):=by rw[d0,←hch];rfl);obtain⟨n,hn⟩:∃n,1+lead ch (cut k (T.drop 1))=n:=⟨_,rfl⟩;have hgs:=grp_step (k:=k) he0;rw[hch,hn]at hgs;have hnT:n≤nT:=by
      have h1:=zWi ch (cut k (T.drop 1));rw[zPn,List.length_drop,HNT.out]at h1;omega
     (have hn1:1≤n:=by omega);have HAL:Hid (∀W,Below E wr W→Calls Tryz.prog 74 #[.slice (some ⟨ge,oe,none⟩) nT cT,.int .i64 k] W fun e w'=>e = .returned (.int .i64 (n:Int))∧Below W.heap.size W w'):=fun W hW=>by
      have:=zYm E W _ T k e0 he0 (HS.out.row.below hW) (by rw[HNT.out];omega) hTk;rw[hch,hn]at this;refine this.mono ?_;rintro e w' ⟨h1,q,rfl⟩;exact⟨h1,belowN (Below.refl _ W) q⟩
     have hsm1:=F.out.k100;have HCH:Hid (zIy ch):=by
      refine F.out.ok.rn e0 (HS.out.sub e0 (List.mem_of_getElem? he0)) ch ?_;rw[←hch];simp only[hd];rw[List.headD_eq_head?_getD,List.head?_drop,List.getElem?_eq_getElem (by rw[hn0];exact hk0)];exact List.getElem_mem _
     have HGS:Hid (grp (cut k T)=(ch,cut (k+1) (T.take n))::grp (cut k (T.drop n))):=hgs;have HTK:Hid (∀e∈T,k<e.1.length):=hTk;obtain⟨vd,na,vc,hva⟩:∃vd na vc,va = .slice vd na vc:=by
      obtain⟨vd,vc,hva,_⟩:=GOwn.shape HS.out.arcs;exact⟨vd,_,vc,hva⟩
     subst hva;clear he0 hx hr0 c1 hTk hn0 hch d0 hn hgs;(have hEw:E≤wr.heap.size:=by have h1:=HS.out.at'.lo.1;have h2:=HS.out.at'.lt.1;omega);(go_upto_region 8 with(go_at_call 74;refine(HAL.out _ (Below.refl _ _)).mono ?_;rintro e wz ⟨rfl,hbz0⟩));have hbz:Below wr.heap.size wr wz.drew:=hbz0.drew;have hbox:wr.heap[bs]?=some (.cells #[.bool fin,.int .i64 out,.slice vd na vc] 56):=HS.out.box;have hbsl:bs<wr.heap.size:=(Array.getElem?_eq_some_iff.1 hbox).1;have hgrl:gr<wr.heap.size:=zAn d0';have hgrE:gr<E∧ge<E:=by
      exact⟨HGR.out,hge⟩
     have hS0:S8 bs (.slice vd na vc) ge oe gr o n0 rc0 k ch wz.drew:=by
      refine⟨?_,?_,?_⟩
      · rw[hbz.cell (p:=⟨bs,2,none⟩) hbsl];simp[World.cell?,hbox]
      · rw[hbz.cell (p:=⟨ge,oe,none⟩) (by show ge<_;omega)];exact c0
      · rw[hbz.cell (p:=⟨gr,o+k,none⟩) hgrl];exact d0'
     have hrowz:ERow E wz.drew (.slice (some ⟨ge,oe,none⟩) nT cT) T:=HS.out.row.below (hbz.mono hEw);(have hTn:(T.take n).length=n:=by rw[List.length_take,HNT.out];omega);(have hTn0:T.take n≠[]:=fun e=>by rw[e]at hTn;simp at hTn;omega);(have hEnT:EnOk (T.take n):=F.out.ok.sub fun e he=>HS.out.sub e (List.mem_of_mem_take he));obtain⟨lg,hlg⟩:∃lg,least (T.take n)=lg:=⟨_,rfl⟩;(have hlgb:1≤lg∧lg≤1048576:=by rw[←hlg];exact zLi hTn0 hEnT.wt);have hbb2:=F.out.fbase;(have hwrap:IntKind.i64.wrap (lg-base)=lg-base:=by rw[IntKind.wrap_i64];omega);(have hkw:IntKind.i64.wrap ((k:Int)+1)=(k:Int)+1:=by rw[IntKind.wrap_i64];omega);(have hncT:(n:Int)≤(cT:Int):=by omega);(have hnTz:(n:Int)≤(nT:Int):=by omega);(have tn:(n:Int).toNat=n:=by omega);(have pn:(0:Int)≤(n:Int):=by omega);have HLG:=zIb E wz.drew _ (T.take n) (hrowz.take hnT (by omega)) (by omega) (by have:=hbz.size;omega) (by omega);rw[hlg]at HLG;have HLGH:Hid (Calls Tryz.prog 38 #[.slice (some ⟨ge,oe,none⟩) n cT] wz.drew fun e w'=>e = .returned (.int .i64 lg)∧Below wz.drew.heap.size wz.drew w'):=HLG;have HBZ:Hid (Below wr.heap.size wr wz.drew):=hbz;have HROW:Hid (ERow E wz.drew (.slice (some ⟨ge,oe,none⟩) nT cT) T):=hrowz;have HLGE:Hid (least (T.take n)=lg):=hlg;have HTN:Hid ((T.take n).length=n):=hTn;have HENT:Hid (EnOk (T.take n)):=hEnT;clear HLG hbz hbz0 hrowz hlg hTn hTn0 hEnT;refine zBd (S:=S8 bs (.slice vd na vc) ge oe gr o n0 rc0 k ch) 27 26 rfl zAr ?_;refine te4 S8.facts 0 35 1 36 2 37 3 38 ?_;simp only[sZa,sZb,sZc];refine te4 S8.facts 4 39 5 40 6 41 7 42 ?_;simp only[sZa,sZb,sZc];refine te4 S8.facts 8 43 9 44 10 45 11 46 ?_;simp only[sZa,sZb,sZc];refine te4 S8.facts 13 48 15 50 16 51 17 52 ?_;simp only[sZa,sZb,sZc];refine te2 S8.facts 18 53 19 54 ?_;simp only[sZa,sZb,sZc];refine te S8.facts 20 55 ?_;simp only[sZa,sZb,sZc];refine zFu (i:=12) (w0:=wz.drew) 47 38 #[.slice (some ⟨ge,oe,none⟩) n cT] (by kernel_rfl) rfl rfl (by rfl) (by kernel_rfl) ?_;refine HLGH.out.mono ?_;rintro e w3 ⟨rfl,hb3⟩;have hb3r:Below wr.heap.size wr w3:=HBZ.out.trans (hb3.mono HBZ.out.size);have hS3:S8 bs (.slice vd na vc) ge oe gr o n0 rc0 k ch w3:=by
      refine⟨?_,?_,?_⟩
      · rw[hb3r.cell (p:=⟨bs,2,none⟩) hbsl];simp[World.cell?,hbox]
      · rw[hb3r.cell (p:=⟨ge,oe,none⟩) (by show ge<_;omega)];exact c0
      · rw[hb3r.cell (p:=⟨gr,o+k,none⟩) hgrl];exact d0'
     refine⟨_,rfl,hS3,?_⟩;simp only[sZa,sZb,sZc];refine te S8.facts 14 49 ?_;simp only[sZa,sZb,sZc];have hrow3:ERow E w3 (.slice (some ⟨ge,oe,none⟩) n cT) (T.take n):=(HS.out.row.below (hb3r.mono hEw)).take hnT (by omega);have hB3:=HS.out.at'.below hb3r;have hOkG:Ok f (cut (k+1) (T.take n)):=HS.out.ok _ (by rw[HGS.out];exact .head _);have hbst:=zYe HS.out.ne (show n≤T.length by rw[HNT.out];exact hnT);have hn1':=HS.out.n1;have hn2':=HS.out.n2;have hF0:=F.out.n0;have hFs1:=F.out.s1;have hFs2:=F.out.s2;have hsz3:=hb3r.size;have HCALL:=IH.out A' E g g1 g2 vs' b' m1' m2' D' w3 _ (T.take n) (k+1) hB3 hrow3 hOkG HENT.out (by rw[HTN.out];omega) (fun e he=>HTK.out e (List.mem_of_mem_take he)) (by omega) (by omega) (by omega) (fun j hj=>by have:=HS.out.as2 j hj;omega);refine zFu (i:=21) (w0:=w3) 56 37 #[.pointer (some ⟨g,0,none⟩),.slice (some ⟨ge,oe,none⟩) n cT,.int .i64 ((k:Int)+1)] (by kernel_rfl) rfl rfl (by rfl) (by kernel_rfl) ?_;refine HCALL.mono ?_;rintro e w4 ⟨nn,rfl,⟨⟨A'',vs'',m1'',m2'',D'',hB4,hm4,hU4,hown4,has4,hal4⟩,hnum⟩⟩;have hwbs:=F.out.fbs;have hfbs:¬fpB g g1 g2 vs' bs:=by
      have hfp:=F.out.fp;have h1s:=F.out.w1s;rintro(e|e|e|e)
      · have:=hfp bs (.inl e);omega
      · have:=hfp bs (.inr (.inl e));omega
      · have:=hfp bs (.inr (.inr (.inl e)));omega
      · rcases HS.out.own with h|⟨j,h,hj⟩
        · have:=hfp bs (.inr (.inr (.inr (h▸e))));omega
        · rw[h]at e;cases e;omega
     have hbox4:w4.heap[bs]?=some (.cells #[.bool fin,.int .i64 out,.slice vd na vc] 56):=(hU4.block bs (by omega) hfbs).trans ((hb3r.block bs hbsl).trans hbox);have hE34:Below E w3 w4:=hU4.below (by omega) HS.out.at'.fp_lo;have hEr4:Below E wr w4:=(hb3r.mono hEw).trans hE34;have hS4:S8 bs (.slice vd na vc) ge oe gr o n0 rc0 k ch w4:=⟨by simp[World.cell?,hbox4],(hEr4.cell (p:=⟨ge,oe,none⟩) hge).trans c0,(hEr4.cell (p:=⟨gr,o+k,none⟩) HGR.out).trans d0'⟩;refine⟨_,rfl,hS4,?_⟩;simp only[sZa,sZb,sZc];refine te S8.facts 22 57 ?_;simp only[sZa,sZb,sZc];obtain⟨w5,hw5⟩:∃w5,w5=w4.alloc (.cells #[.int .i32 ch,.int .i64 (lg-base),.int .i64 nn] 89):=⟨_,rfl⟩;(have hb5:Below w4.heap.size w4 w5:=by rw[hw5];exact(Below.refl _ w4).alloc (Nat.le_refl _) _);(have hn5:w5.heap[w4.heap.size]?=some (.cells #[.int .i32 ch,.int .i64 (lg-base),.int .i64 nn] 89):=by rw[hw5];exact zAb _ _);have hbl4:bs<w4.heap.size:=(Array.getElem?_eq_some_iff.1 hbox4).1;have hbox5:=(hb5.block bs hbl4).trans hbox4;have hE45:Below E w4 w5:=hb5.mono (by have:=hU4.size;omega);have hS5:S8 bs (.slice vd na vc) ge oe gr o n0 rc0 k ch w5:=⟨by simp[World.cell?,hbox5],(hE45.cell (p:=⟨ge,oe,none⟩) hge).trans hS4.e,(hE45.cell (p:=⟨gr,o+k,none⟩) HGR.out).trans hS4.r⟩;have ha3:AOwn E w3 (.slice vd na vc) acc:=GOwn.below HS.out.arcs hb3r;(have ha4:AOwn E w4 (.slice vd na vc) acc:=AOwn.typed ha3 fun j cur hj=>hU4.block j (Array.getElem?_eq_some_iff.1 hj).1 (hB3.arc_free hj));have ha5:AOwn E w5 (.slice vd na vc) acc:=GOwn.below ha4 hb5;(have hE5:E≤w5.heap.size:=by have h1:=hU4.size;have h2:=hb5.size;omega);obtain⟨v6,w6,hap,ho6,hgr6,hown6⟩:=zAx rtyA ha5 hE5 (x:=zCv ⟨ch,lg-base,nn⟩) (zNz _) (nb:=w4.heap.size) (fun j u hj=>by simp only[World.cell?,hn5];simpa[zCv]using hj) (by rw[List.length_map];omega) 54 1;(have ho6':AOwn E w6 v6 (acc++[⟨ch,lg-base,nn⟩]):=by unfold AOwn;rw[List.map_append];exact ho6);obtain⟨vd6,vc6,hv6,_⟩:=GOwn.shape ho6';rw[List.length_map]at hv6;obtain⟨n6,hn6⟩:∃n6,(acc++[(⟨ch,lg-base,nn⟩:Arc)]).length=n6:=⟨_,rfl⟩;rw[hn6]at hv6;subst hv6;have hvt:∀j,(Value.slice vd na vc).ownBlock=some j→j≠bs:=fun j hj e=>by
      obtain⟨_,cur,hc⟩:=GOwn.block ha4 hj;rw[e,hbox4]at hc;simp only[Option.some.injEq,Obj.cells.injEq]at hc;exact absurd hc.2.1 (by decide)
     have hbox6:w6.heap[bs]?=some (.cells #[.bool fin,.int .i64 out,.slice vd na vc] 56):=(hgr6.block bs (by have:=hb5.size;omega) (fun e=>hvt bs e.symm rfl)).trans hbox5;(have hapJ:∀j,(Value.slice vd na vc).ownBlock=some j→E≤j∧j<wr.heap.size:=fun j hj=>⟨(GOwn.block ha4 hj).1,GOwn.lt HS.out.arcs hj⟩);have hE56:Below E w5 w6:=zIf ha5 hgr6 hE5;have hS6:S8 bs (.slice vd na vc) ge oe gr o n0 rc0 k ch w6:=⟨by simp[World.cell?,hbox6],(hE56.cell (p:=⟨ge,oe,none⟩) hge).trans hS5.e,(hE56.cell (p:=⟨gr,o+k,none⟩) HGR.out).trans hS5.r⟩;have hq6:w6.cell? ⟨bs,2,none⟩=some (.slice vd na vc):=hS6.b;(have hz6:w6.frozen? ⟨bs,2,none⟩=false:=by simp[World.frozen?,hbox6]);obtain⟨w7,hw7⟩:∃w7,w7=w6.setCell ⟨bs,2,none⟩ (.slice vd6 n6 vc6):=⟨_,rfl⟩;have HNEXT:Hid (∀s1',ERow E wr s1' (T.drop n)→SLoop A E g g1 g2 vs b m2 f k base fin out T0 bs w1 w7 s1' (T.drop n) (acc++[⟨ch,lg-base,nn⟩]) A'' vs'' (stF f b' (cut (k+1) (T.take n))).1 m1'' m2'' D'' (.slice vd6 n6 vc6)):=by
      intro s1' hs1';(have hbox7:w7.heap[bs]?=some (.cells #[.bool fin,.int .i64 out,.slice vd6 n6 vc6] 56):=by rw[hw7,zAt hbox6 _];rfl);(have he7:∀j,j≠bs→w7.heap[j]?=w6.heap[j]?:=fun j hj=>by rw[hw7];exact zAc _ _ _ _ hj);have hr7:=zA4 w6 bs 2 (.slice vd6 n6 vc6);rw[←hw7]at hr7;have hsz4:=hU4.size;have hsz5:=hb5.size;have hsz6:=hgr6.size;have h1s:=F.out.w1s;have hu1:=HS.out.upd.size;have hE67:Below E w6 w7:=⟨hr7.1,hr7.2.1,hr7.2.2.1,Nat.le_of_eq hr7.2.2.2.symm,fun j hj=>he7 j (by have:=F.out.fE;omega)⟩;have hnA:¬A'' bs:=fun h=>by
       rcases has4 bs h with h|h
       · rcases HS.out.as1 bs h with h|h
         · have:=F.out.al bs h;omega
         · omega
       · omega
      have hfbs'':¬fpB g g1 g2 vs'' bs:=by
       rintro(e|e|e|e)
       · exact hfbs (.inl e)
       · exact hfbs (.inr (.inl e))
       · exact hfbs (.inr (.inr (.inl e)))
       · rcases hown4 with h|⟨j,h,hj⟩
         · exact hfbs (.inr (.inr (.inr (h▸e))))
         · rw[h]at e;cases e;omega
      have hB5:=hB4.below hb5
      have hB6:BAt A'' E w6 g g1 g2 vs'' (stF f b' (cut (k+1) (T.take n))).1 m1'' m2'' D'':=hB5.keepJ (J:=fun j=>(Value.slice vd na vc).ownBlock=some j) (fun j hj hn=>hgr6.block j hj (fun e=>hn e.symm)) (fun j hj=>⟨by
       obtain⟨_,cur,hc⟩:=GOwn.block ha5 hj;exact hB5.arc_free hc,fun h=>by
       rcases has4 j h with h|h
       · exact(HS.out.apart j hj).2 h
       · have:=(hapJ j hj).2;omega⟩)
      have hB7:BAt A'' E w7 g g1 g2 vs'' (stF f b' (cut (k+1) (T.take n))).1 m1'' m2'' D'':=hB6.keepJ (J:=fun j=>j=bs) (fun j _ hj=>he7 j hj) (fun j hj=>by rw[hj];exact⟨hfbs'',hnA⟩);have hst:=zFp f b' (cut (k+1) (T.take n)) hOkG;(have hnn:nn<549755813888:=by rw[←hnum];omega);refine⟨hs1'.below ((hEr4.trans hE45).trans (hE56.trans hE67)),hB7,hbox7,?_,fun j hj=>?_,?_,?_,by rw[List.length_append];simp only[List.length_singleton];omega,by rw[List.length_append];simp only[List.length_singleton];omega,.inr (by simp),?_,fun e he=>HS.out.ne e (by rw[zHo]at he;exact List.mem_of_mem_drop he),fun p hp=>HS.out.ok p (by rw[HGS.out];exact .tail _ hp),fun a ha=>?_,fun e he=>HS.out.sub e (List.mem_of_mem_drop he),?_,?_,fun j hj=>?_,fun j hj=>?_⟩
      · refine GOwn.same ho6' fun j hj=>he7 j fun e=>?_
        obtain⟨_,cur,hc⟩:=GOwn.block ho6' hj;rw[e,hbox6]at hc;simp only[Option.some.injEq,Obj.cells.injEq]at hc;exact absurd hc.2.1 (by decide)
      · rcases hown6 with h|⟨q,h,hq⟩
        · have h2:=HS.out.apart j (h▸hj)
          refine⟨h2.1,fun hA=>?_⟩;rcases has4 j hA with h3|h3
          · exact h2.2 h3
          · have:=(hapJ j (h▸hj)).2;omega
        · rw[h]at hj
          simp only[Option.some.injEq]at hj;exact⟨by omega,fun hA=>by have:=hal4 j hA;omega⟩
      · have:=HS.out.eq1;rw[HGS.out]at this;exact this
      · have:=HS.out.eq2
        rw[HGS.out,arF,hnum]at this;rw[←this,zF1,HLGE.out,List.append_assoc];rfl
      · have:=HS.out.n4
        rw[List.length_append,List.length_drop,HNT.out];rw[HNT.out]at this;simp only[List.length_singleton];omega
      · rcases List.mem_append.1 ha with ha|ha
        · exact HS.out.oka a ha
        · rw[List.mem_singleton.1 ha]
          exact⟨HCH.out,by constructor<;>simp only<;>omega,by constructor<;>simp only<;>omega⟩
      · have hu3:Upd (fun j=>fpB g g1 g2 vs j∨j=bs) w1 w3:=HS.out.upd.trans (G:=fun _=>False) (Upd.of_below hb3r) (fun _ _ h=>h.elim)
        have hu4:Upd (fun j=>fpB g g1 g2 vs j∨j=bs) w1 w4:=hu3.trans hU4 (fun j hj hf=>by
         rcases hf with hf|hf|hf|hf
         · exact .inl (.inl hf)
         · exact .inl (.inr (.inl hf))
         · exact .inl (.inr (.inr (.inl hf)))
         · rcases HS.out.own with h|⟨q,h,hq⟩
           · exact .inl (.inr (.inr (.inr (h▸hf))))
           · rw[h]at hf;cases hf;omega)
        have hu5:Upd (fun j=>fpB g g1 g2 vs j∨j=bs) w1 w5:=hu4.trans (G:=fun _=>False) (Upd.of_below hb5) (fun _ _ h=>h.elim);have hu6:Upd (fun j=>fpB g g1 g2 vs j∨j=bs) w1 w6:=hu5.trans (G:=fun j=>(Value.slice vd na vc).ownBlock=some j) ⟨hgr6.os,hgr6.tape,hgr6.output,hgr6.size,fun j hj hn=>hgr6.block j hj (fun e=>hn e.symm)⟩ (fun j hj hf=>by have:=(HS.out.apart j hf).1;omega);exact hu6.trans (G:=fun j=>j=bs) ⟨hr7.1,hr7.2.1,hr7.2.2.1,Nat.le_of_eq hr7.2.2.2.symm,fun j _ hj=>he7 j hj⟩ (fun j _ h => .inr h)
      · rcases hown4 with h|⟨q,h,hq⟩
        · rcases HS.out.own with h2|⟨q,h2,hq⟩
          · exact .inl (h.trans h2)
          · exact .inr ⟨q,h.trans h2,hq⟩
        · exact .inr ⟨q,h,by omega⟩
      · rcases has4 j hj with h|h
        · exact HS.out.as1 j h
        · exact .inr (by omega)
      · have:=hal4 j hj;omega
     have HAP:Hid ((Builtin.append_ #[54,54] 54 #[.slice vd na vc,.slice (some ⟨w4.heap.size,0,none⟩) 1 1]).run Tryz.prog w5 = .ok (.slice vd6 n6 vc6) w6):=hap;refine zAg (i:=23) (v := .slice (some ⟨w4.heap.size,0,none⟩) 1 1) (w':=w5) 58 (by kernel_rfl) rfl rfl (by rfl) (by rw[hw5];go_simp;first|done|exact rfl) hS5 ?_;simp only[sZa,sZb,sZc];refine zAg (i:=24) (v := .slice vd6 n6 vc6) (w':=w6) 59 (by kernel_rfl) rfl rfl (by rfl) (zCj HAP.out) hS6 ?_;simp only[sZa,sZb,sZc];refine zAg (i:=25) (v := .pointer (some ⟨bs,2,none⟩)) (w':=w6) 60 (by kernel_rfl) rfl rfl (by rfl) (by kernel_rfl) hS6 ?_;simp only[sZa,sZb,sZc];have HROWr:Hid (ERow E wr (.slice (some ⟨ge,oe,none⟩) nT cT) T):=HS.out.row;clear hS0 hS3 hS4 hS5 hS6 hap ho6 ho6' hgr6 hown6 hbox4 hbox5 hbox6 hn5 hb5 ha3 ha4 ha5 hE5 hE45 hE56 hE34 hEr4 hapJ hvt hn6 hU4 hB4 hm4 hown4 has4 hal4 hB3 hrow3 hOkG HCALL hb3 hb3r hfbs hbst hn1' hn2' hF0 hFs1 hFs2 hnum hbl4 hw5 c0 d0' hbox hgrl hgrE hbsl hwbs;refine zA6 (w':=w7) (by kernel_rfl) rfl rfl (by rfl) (by rw[hw7];go_simp;first|done|exact rfl) (by kernel_rfl) ?_;clear hq6 hz6 hw7;(have HLEN:Hid ((T.drop n).length=nT-n):=by show _=_;rw[List.length_drop,HNT.out]);by_cases hcn:cT=n
     · have hr:=HROWr.out.drop (ad:=some ⟨ge,oe,none⟩) hnT h0 (.inl (by omega))
       (have h1:nT-n=0:=by omega);(have h2:cT-n=0:=by omega);rw[h1,h2]at hr;rw[h1]at HLEN;have HX:Hid _:=HNEXT.out _ hr;(have hcnz:(cT:Int)=(n:Int):=by omega);(have hnTn:nT=n:=by omega);clear hr h1 h2;subst hcn;subst hnTn;go_wp2;go_roundg 0;(case measure=>omega);case rel=>exact⟨_,_,A'',vs'',_,m1'',m2'',D'',.slice vd6 n6 vc6,_,_,_,rfl,by omega,by omega,by omega,HLEN,HX⟩
     · have hcnz:¬(cT:Int)=(n:Int):=by omega
       have HX:Hid _:=HNEXT.out _ (HROWr.out.drop (ad:=some ⟨ge,oe+n*2,none⟩) hnT h0 (.inr rfl));go_wp2;go_roundg (nT-n);(case measure=>omega);case rel=>exact⟨_,_,A'',vs'',_,m1'',m2'',D'',.slice vd6 n6 vc6,_,_,_,rfl,by omega,by omega,by omega,HLEN,HX⟩
   · have h0z:¬(0:Int)<(nT:Int):=by omega
     have hT:T=[]:=List.eq_nil_of_length_eq_zero (by have:=HNT.out;omega);subst hT;obtain⟨d1,d2,d3⟩:=F.out.done HS.out;obtain⟨vd,na,vc,hva⟩:∃vd na vc,va = .slice vd na vc:=by
      obtain⟨vd,vc,hva,_⟩:=GOwn.shape HS.out.arcs;exact⟨vd,_,vc,hva⟩
     subst hva;have hs1':=F.out.s1;have hs2':=F.out.s2;have HD3:Hid _:=d3;have HNUM:=zS5 A' E g g1 g2 vs' b' m1' m2' D' wr ⟨fin,out,acc⟩ (.slice vd na vc) HS.out.at' HS.out.arcs HS.out.oka F.out.fout (by simp only;omega) (by omega) HS.out.as2;have HN2:Hid (Calls Tryz.prog 75 #[.pointer (some ⟨g,0,none⟩),.agg #[.bool fin,.int .i64 out,.slice vd na vc]] wr fun e w'=>∃k:Nat,e = .returned (.int .i64 k)∧NumSays A' E g g1 g2 vs' b' m2' ⟨fin,out,acc⟩ (.slice vd na vc) wr w' k):=HNUM;obtain⟨x0,x1,x2⟩:=(TriAt.of HS.out.box).facts;clear d1 d2 d3 HNUM;go_wp2_with (go_at_call 75;refine HN2.out.mono ?_;rintro e w8 ⟨n8,rfl,hN8⟩);go_ret;exact⟨n8,rfl,HD3.out _ _ hN8⟩
