/- PROVED: behind any script of calls on any dictionary a new machine changes nothing that is told, but that Changes is 0 then (P14.5, P14.6)
   Conditions: none: every input that can be -/
import Derived.Test.YtobjpljdgieklaaGreatDoorOpsIn
import Derived.Deep.Slices
set_option maxRecDepth 100000
set_option maxHeartbeats 8000000
namespace Go.Proofs.YtobjpljdgieklaaGreatDoor
section
open Go.ChangeShapes Go.WideShapes Go.ChangeAt Go.RowKit Go.Deep Fz
def SmM(m:Mt):Prop:=m.1.size≤9223372036854775807
theorem query_in{H:Type}{enc:TypeId×Value→H}{W:World}{base:Nat}{v:Value}{d:DataW H}{p:List MemPlace}
 (hok:Value.okWide Tryz.prog W .any base 49 v) (h:DataW.Trod enc Tryz.prog W 0 (fun _=>true) true 49 v d p):∃q:Mt,v = .agg #[.string q.1,.int .i64 q.2.1,.int .i64 q.2.2]∧SmM q:=by
 obtain⟨cs,rfl,hsz⟩:=okWide_struct Tryz.underlying49 hok;obtain⟨fuel,hf⟩:=h;obtain⟨y0,y1,y2,n,_,hl,g0,g1,g2⟩:=trod_struct3 Tryz.underlying49 hf;rw[show Tryz.prog.cellsOf 49=3 by kernel_rfl]at hl;have ec:(Value.agg cs).cells.toList=cs.toList:=by simp[Value.cells]
 rw[ec]at hl g0 g1 g2
 match hcs:cs.toList,hl with
 |[v0,v1,v2],_=>
  rw[hcs]at g0 g1 g2;simp[zG8,zHd]at g0 g1 g2;obtain⟨s,e0,_,w0⟩:=DataW.trod_string Tryz.underlying9 g0;obtain⟨z,e1,_,w1⟩:=DataW.trod_int Tryz.underlying3 g1;obtain⟨z2,e2,_,w2⟩:=DataW.trod_int Tryz.underlying3 g2;simp only[List.cons.injEq,and_true]at e0 e1 e2;subst e0 e1 e2;have e3:cs=#[.string s,.int .i64 z,.int .i64 z2]:=Array.toList_inj.1 hcs;subst e3;have hw:=w0;unfold maxLen at hw;exact⟨(s,z,z2),rfl,hw⟩
end
section
open Go.RowKit Go.Shelf Go.Lib Nums Fm Pk Pm Fz Ed Lv Di
structure CSt(B:Nat)(W:World)(db:Nat)(u:Value)(L:List Pr):Prop where
 b:BSt B W db u L
 c:W.cell? ⟨db,1,none⟩=some (.slice none 0 0)
theorem CSt.below{B:Nat}{W W':World}{db:Nat}{u:Value}{L:List Pr}(h:CSt B W db u L)(hb:Below W.heap.size W W'):CSt B W' db u L:=
 ⟨h.b.below hb,(hb.cell (p:=⟨db,1,none⟩) (World.block_lt_of_cell? _ _ h.c)).trans h.c⟩
theorem comp_bst(B:Nat)(W:World)(db:Nat)(u:Value)(L:List Pr)(h:BSt B W db u L):
 Calls Tryz.prog 25 #[.pointer (some ⟨db,0,none⟩)] W fun e w'=>e = .returned (.tuple #[])∧CSt B w' db u L∧Upd (fun k=>k=db) W w'∧B≤db∧db<W.heap.size:=by
 obtain⟨lo,hi,wb,v,base,over,h1,h2,rfl,h4⟩:=h.ex;refine(zFe B W db lo hi wb v base over h1).mono ?_;rintro e w' ⟨rfl,hc⟩;obtain⟨lo',hi',wb',hd,_⟩:=hc.ex;refine⟨rfl,⟨⟨⟨lo',hi',wb',_,_,[],hd,by simp,(Dok.start h1.ok.all).2,fun h0 k hk hf=>?_⟩,zKx h.row hc.upd (fun h0 k hk e=>h4 h0 k hk (.inl e))⟩,hd.cells.2.1⟩,hc.upd,h1.low,h1.lt⟩;rcases hf with hf|hf
 · exact h4 h0 k hk (.inl hf)
 · cases hf
theorem dcomp_walk(v z:Value)(q:Mt)(w:World)(ht:Tabs w)(L:List Pr)(h:PRow w v L)(hs:Sm L)(hl:L.length≤9223372036854775807)(Z:List Oo)(hz:ORow w.heap.size w z Z)(hzs:OSm Z)(hq:SmM q):
 Calls Tryz.prog 7 #[v,z,.agg #[.string q.1,.int .i64 q.2.1,.int .i64 q.2.2]] w fun e w'=>e = .returned (.bool true)∧Below w.heap.size w w':=by
 have hqs:q.1.size≤9223372036854775807:=hq;obtain⟨W0,hW0⟩:∃W0,W0=w.alloc (.cells #[.string q.1,.int .i64 q.2.1,.int .i64 q.2.2] 49):=⟨_,rfl⟩;obtain⟨qb,hqb⟩:∃qb,qb=w.heap.size:=⟨_,rfl⟩;have hb0:Below w.heap.size w W0:=by rw[hW0];exact(Below.refl _ w).alloc (Nat.le_refl _) _
 have hn0:W0.heap[qb]?=some (.cells #[.string q.1,.int .i64 q.2.1,.int .i64 q.2.2] 49):=by rw[hW0,hqb];exact zAb _ _
 have HB:Hid (∀W,Below W0.heap.size W0 W→Below w.heap.size w W):=fun W hW=>hb0.trans (hW.mono hb0.size)
 have HAL:Hid (∀W,Below W0.heap.size W0 W→Calls Tryz.prog 14 #[] W fun e w'=>e = .returned (.bool true)∧Below W.heap.size W w'):=fun W hW=>zCq W (ht.below (HB.out W hW))
 have HQ:Hid (∀W,Below W0.heap.size W0 W→W.cell? ⟨qb,0,none⟩=some (.string q.1)∧W.cell? ⟨qb,1,none⟩=some (.int .i64 q.2.1)∧W.cell? ⟨qb,2,none⟩=some (.int .i64 q.2.2)):=fun W hW=>by
  have:=(hW.block qb (Array.getElem?_eq_some_iff.1 hn0).1).trans hn0;exact⟨by simp[World.cell?,this],by simp[World.cell?,this],by simp[World.cell?,this]⟩
 obtain⟨vd,vc,hv⟩:=h.form;obtain⟨zd,zc,hzv⟩:=hz.form;by_cases hc:skip Z L∨zAf L≠0
 · have HBG:Hid (Calls Tryz.prog 13 #[v,z] W0 fun e w'=>e = .returned (.tuple #[.pointer none,.slice none 0 0,.bool true])∧Below W0.heap.size W0 w'):=zEl W0 (ht.below hb0) v z L _ Z (h.below hb0) hs hl (hz.below hb0) hc
   subst hv;subst hzv;generalize L.length=n at *;generalize Z.length=m at *;clear h hs hz hzs hq hqs hc ht hl hb0 hn0 HQ;go_enter Tryz.func7,Tryz.ntmps7;(go_upto_region 1 with fail);rw[←hW0];clear hW0 hqb
   go_wp2_with (first
    |(go_at_call 13;refine HBG.out.mono ?_;rintro e w1 ⟨rfl,hb1⟩;have HB1:Hid (Below W0.heap.size W0 w1):=hb1;clear hb1)
    |(go_at_call 14;refine(HAL.out _ HB1.out).mono ?_;rintro e w2 ⟨rfl,hb2⟩;have HB2:Hid (Below W0.heap.size W0 w2):=HB1.out.trans (hb2.mono HB1.out.size);clear hb2))
   go_ret;exact⟨by first|rfl|simp,HB.out _ HB2.out⟩
 · have HBG:Hid (Calls Tryz.prog 13 #[v,z] W0 fun e w'=>∃db ad n cap,e = .returned (.tuple #[.pointer (some ⟨db,0,none⟩),.slice ad n cap,.bool true])∧BSt W0.heap.size w' db (.slice ad n cap) (Z.foldl stepL L)∧Below W0.heap.size W0 w'):=zHn W0 (ht.below hb0) v z L _ hb0.size Z (h.below hb0) hs (hz.below hb0) hzs hc
   obtain⟨M,hM⟩:∃M,Z.foldl stepL L=M:=⟨_,rfl⟩;rw[hM]at HBG;(have HSG:Hid (∀W db u,BSt W0.heap.size W db u M→Calls Tryz.prog 22 #[.pointer (some ⟨db,0,none⟩),.agg #[.string q.1,.int .i64 q.2.1,.int .i64 q.2.2]] W fun e w'=>∃ad n cap,e = .returned (.tuple #[.slice ad n cap,.int .i64 (allC q.1.data.toList q.2.1)])∧MRow w' (.slice ad n cap) (sugL M q)∧(∀k,(Value.slice ad n cap).ownBlock=some k→W.heap.size≤k)∧Below W.heap.size W w'):=fun W db u hb=>hb.sug q hqs);(have HCM:Hid (∀W db u,BSt W0.heap.size W db u M→Calls Tryz.prog 25 #[.pointer (some ⟨db,0,none⟩)] W fun e w'=>e = .returned (.tuple #[])∧CSt W0.heap.size w' db u M∧Upd (fun k=>k=db) W w'∧W0.heap.size≤db∧db<W.heap.size):=fun W db u hb=>comp_bst _ W db u M hb);(have HSM:Hid (∀W db u a b,BSt W0.heap.size W db u M→MRow W a (sugL M q)→MRow W b (sugL M q)→Calls Tryz.prog 24 #[a,b] W fun e w'=>e = .returned (.bool true)∧Below W.heap.size W w'):=fun W db u a b hb k1 k2=>zOg W a b _ k1 k2 (by have:=sug_len hb.built q;omega));(have HSD:Hid (∀W db u,CSt W0.heap.size W db u M→Calls Tryz.prog 16 #[.pointer (some ⟨db,0,none⟩),u] W fun e w'=>e = .returned (.bool true)∧Below W.heap.size W w'):=fun W db u hb=>zGg _ W db u M hb.b);(have HCH:Hid (∀W db u,CSt W0.heap.size W db u M→Calls Tryz.prog 19 #[.pointer (some ⟨db,0,none⟩)] W fun e w'=>e = .returned (.int .i64 ((0:Nat):Int))∧w'=W):=fun W db u hb=>zFf W db none 0 0 hb.c);generalize allC q.1.data.toList q.2.1=C at *;generalize sugL M q=R at *;(have q1:(C==C)=true:=by simp);subst hv;subst hzv;generalize L.length=n at *;generalize Z.length=m at *;clear h hs hz hzs hq hqs hc ht hl hM hb0 hn0;obtain⟨qs,qe,qk⟩:=q;simp only at *;go_enter Tryz.func7,Tryz.ntmps7;(go_upto_region 1 with fail);rw[←hqb,←hW0];clear hW0 hqb
   go_upto_region 5 with(first
    |(go_at_call 13;refine HBG.out.mono ?_;rintro e w1 ⟨db,ad,an,ac,rfl,hs1,hb1⟩;have HS1:Hid (BSt W0.heap.size w1 db (.slice ad an ac) M∧Below W0.heap.size W0 w1):=⟨hs1,hb1⟩;obtain⟨y0,y1,y2⟩:=HQ.out w1 hb1;clear hs1 hb1)
    |(go_at_call 22;refine(HSG.out _ _ _ HS1.out.1).mono ?_;rintro e w2 ⟨a2,n2,c2,rfl,hm2,hn2,hb2⟩;have HS2:Hid (BSt W0.heap.size w2 db (.slice ad an ac) M∧Below W0.heap.size W0 w2∧MRow w2 (.slice a2 n2 c2) R):=⟨HS1.out.1.below hb2,HS1.out.2.trans (hb2.mono HS1.out.2.size),hm2⟩;have HN2:Hid (∀k,(Value.slice a2 n2 c2).ownBlock=some k→w1.heap.size≤k):=hn2;clear hb2 hm2 hn2 y0 y1 y2))
   have HDB:Hid (db<w1.heap.size):=by
    obtain⟨_,_,_,_,_,_,k1,_⟩:=HS1.out.1.ex;exact k1.lt
   go_upto_region 6 with(go_at_call 25;refine(HCM.out _ _ _ HS2.out.1).mono ?_;rintro e w3 ⟨rfl,hs3,hu3,hlo,_⟩;have HS3:Hid (CSt W0.heap.size w3 db (.slice ad an ac) M∧Below W0.heap.size W0 w3∧MRow w3 (.slice a2 n2 c2) R):=⟨hs3,HS2.out.2.1.trans (hu3.below HS2.out.2.1.size (fun k e=>by rw[e];exact hlo)),mrow_upd HS2.out.2.2 hu3 (fun k hk e=>by have h1:=HN2.out k hk;have h2:=HDB.out;omega)⟩;obtain⟨z0,z1,z2⟩:=HQ.out w3 HS3.out.2.1;clear hs3 hu3 hlo)
   go_wp2_with (first
    |(go_at_call 22;refine(HSG.out _ _ _ HS3.out.1.b).mono ?_;rintro e w4 ⟨a4,n4,c4,rfl,hm4,_,hb4⟩;have HS4:Hid (CSt W0.heap.size w4 db (.slice ad an ac) M∧Below W0.heap.size W0 w4∧MRow w4 (.slice a2 n2 c2) R∧MRow w4 (.slice a4 n4 c4) R):=⟨HS3.out.1.below hb4,HS3.out.2.1.trans (hb4.mono HS3.out.2.1.size),HS3.out.2.2.below hb4,hm4⟩;clear hb4 hm4 z0 z1 z2)
    |(go_at_call 14;refine(HAL.out _ HS4.out.2.1).mono ?_;rintro e w5 ⟨rfl,hb5⟩;have HS5:Hid (CSt W0.heap.size w5 db (.slice ad an ac) M∧Below W0.heap.size W0 w5∧MRow w5 (.slice a2 n2 c2) R∧MRow w5 (.slice a4 n4 c4) R):=⟨HS4.out.1.below hb5,HS4.out.2.1.trans (hb5.mono HS4.out.2.1.size),HS4.out.2.2.1.below hb5,HS4.out.2.2.2.below hb5⟩;clear hb5)
    |(go_at_call 24;refine(HSM.out _ _ _ _ _ HS5.out.1.b HS5.out.2.2.1 HS5.out.2.2.2).mono ?_;rintro e w6 ⟨rfl,hb6⟩;have HS6:Hid (CSt W0.heap.size w6 db (.slice ad an ac) M∧Below W0.heap.size W0 w6):=⟨HS5.out.1.below hb6,HS5.out.2.1.trans (hb6.mono HS5.out.2.1.size)⟩;clear hb6)
    |(go_at_call 16;refine(HSD.out _ _ _ HS6.out.1).mono ?_;rintro e w7 ⟨rfl,hb7⟩;have HS7:Hid (CSt W0.heap.size w7 db (.slice ad an ac) M∧Below W0.heap.size W0 w7):=⟨HS6.out.1.below hb7,HS6.out.2.trans (hb7.mono HS6.out.2.size)⟩;clear hb7)
    |(go_at_call 19;refine(HCH.out _ _ _ HS7.out.1).mono ?_;rintro e w8 ⟨rfl,hw8⟩;rw[hw8];clear hw8))
   go_ret;exact⟨by first|rfl|simp,HB.out _ HS7.out.2⟩
end
section
open Go.ChangeShapes Go.WideShapes Go.ChangeAt Go.RowKit
open Go.ChangeMaps (open_string shut_string)
theorem dcomp_contract(H:Type)(enc:TypeId×Value→H)(W:World)(base:Nat)(args:Array Value)(ds gs:List (DataW H))(before:List MemPlace)
 (hval:∀(j:Nat) t v,Tryz.f7.params[j]?=some t→args[j]?=some v→Value.okWide Tryz.prog W .any base t v)
 (hW:DataW.Whole enc Tryz.prog Tryz.f7.params.toList Rows.dictCompactsSpec.vars false W args.toList ds gs before) (hL:laidMetH Tryz.prog Rows.dictCompactsRow.laid W):
 Calls Tryz.prog 7 args W fun e W'=>∃v,e = .returned v∧Rows.dictCompactsSpec.post enc Tryz.prog Tryz.f7 false true false false W args v W':=by
 have hW':=hW;obtain⟨p,q,hA0,hV,rfl,hfz,hnd⟩:=hW;have hA:DataW.TrodAll enc Tryz.prog W 0 (fun _=>true) true Tryz.f7.params.toList args.toList ds p:=hA0;rw[Tryz.params7]at hA hval;obtain⟨v0,vs0,d0,ds0,p0,q0,hargs,rfl,rfl,h0,r0⟩:=trodAll_cons hA;obtain⟨v1,vs1,d1,ds1,p1,q1,rfl,rfl,rfl,h1,r1⟩:=trodAll_cons r0;obtain⟨v2,vs2,d2,ds2,p2,q2,rfl,rfl,rfl,h2,r2⟩:=trodAll_cons r1;obtain⟨rfl,rfl,rfl⟩:=trodAll_nil r2;obtain rfl:args=#[v0,v1,v2]:=by cases args;simp_all
 obtain⟨rfl,rfl⟩:=trodVars_none hV;obtain⟨L0,hR0,hS0,hl0,hbig0⟩:=zFm (hval 0 22 v0 rfl rfl) h0;obtain⟨L1,hR1,hS1,hbig1⟩:=Di.ops_in (hval 1 23 v1 rfl rfl) h1;obtain⟨x2,rfl,hx2⟩:=query_in (hval 2 49 v2 rfl rfl) h2;clear hA0;simp only[List.append_nil]at hW';refine(dcomp_walk v0 v1 x2 W (zB6 hL) L0 hR0 hS0 hl0 L1 hR1 hS1 hx2).mono fun e W' ⟨he,hb⟩=>?_
 subst he;have harg2:=Below.trod zCa (by kernel_rfl) (of_decide_eq_true (by kernel_rfl)) h2 hb (fun x hx=>hW'.lt x (by simp[hx]));have harg1:=Below.trod zCa (by kernel_rfl) (of_decide_eq_true (by kernel_rfl)) h1 hb (fun x hx=>hW'.lt x (by simp[hx]));have harg0:=Below.trod zCa (by kernel_rfl) (of_decide_eq_true (by kernel_rfl)) h0 hb (fun x hx=>hW'.lt x (by simp[hx]))
 exact⟨_,rfl,_,_,_,[],_,[],hW',trodAll_cons_mk (shut_bool Tryz.underlying4 _) trodAll_mk0,
  trodAll_cons_mk harg0 (trodAll_cons_mk harg1 (trodAll_cons_mk harg2 trodAll_mk0)),rfl,hb.frame _,fun h=>by cases h⟩
theorem zS3(os:Os):laidMet Tryz.prog Rows.dictCompactsRow.laid ((laidWorld os).forCall (fun _ _=>0) ⟨#[],#[.slice none 0 0,.slice none 0 0,.agg #[.string .empty,.int .i64 0,.int .i64 0]],[]⟩).memory:=
 laidMet_of_run' 8 (by kernel_rfl) (by kernel_rfl)
theorem zO4(os:Os){H:Type}(enc:TypeId×Value→H):∃places,DataW.whole enc Tryz.prog ((laidWorld os).forCall (fun _ _=>0) ⟨#[],#[.slice none 0 0,.slice none 0 0,.agg #[.string .empty,.int .i64 0,.int .i64 0]],[]⟩).memory Tryz.f7.params.toList Rows.dictCompactsSpec.vars false #[Value.slice none 0 0,Value.slice none 0 0,Value.agg #[.string .empty,.int .i64 0,.int .i64 0]].toList 8=some ([.nil,.nil,.agg [.lit (.string []),.lit (.int .i64 0),.lit (.int .i64 0)]],[],places):=
 ⟨[],by kernel_rfl⟩
theorem zNh(os:Os)(started:os.Started)(H:Type)(enc:TypeId×Value→H)(F:Stop.Interp):
 ReturnsInHanded {} Tryz.checked os 7 .any ((OpenSpec.ofChange Rows.dictCompactsSpec).preRow enc Tryz.prog Tryz.f7 Rows.dictCompactsRow.domain false Rows.dictCompactsRow.laid) (((OpenSpec.ofChange Rows.dictCompactsSpec).at F).post enc Tryz.prog Tryz.f7 false true false false):=by
 obtain⟨places,hx⟩:=zO4 os enc
 refine returnsInHanded_of_row (C:=Tryz.checked) (s:=OpenSpec.ofChange Rows.dictCompactsSpec) own started (by kernel_rfl) Tryz.func7
  (witness_row_at (enc:=enc) (C:=Tryz.checked) false (laidWorld os) #[.slice none 0 0,.slice none 0 0,.agg #[.string .empty,.int .i64 0,.int .i64 0]] rfl (by kernel_rfl) (by kernel_rfl) (by kernel_rfl)
   (OpenSpec.preRow_of_cond 8 hx (by kernel_rfl) (fun k hk=>by cases hk) (by kernel_rfl) (zS3 os))) ?_
 intro W base args ds gs before hval hW _ _ _ hL _ _;exact dcomp_contract H enc W base args ds gs before hval hW hL
theorem zS2:Rows.DictCompactsSaid:=
 OpenClaim.holds_of_cond 7 Tryz.f7 rfl rfl rfl rfl rfl rfl rfl ⟨rfl,rfl,rfl,rfl,rfl⟩ rfl rfl rfl rfl rfl (by kernel_rfl) Tryz.func7 (by kernel_rfl)
  (of_decide_eq_true (by kernel_rfl)) (by unfold Func.isWrapper;first|(rw[if_pos (by decide +kernel)];kernel_rfl)|(rw[if_neg (by decide +kernel)];exact⟨rfl,rfl⟩))
  (fun os started H enc _ F=>by rw[OpenClaim.pre_eq_preRow];exact zNh os started H enc F)
theorem zO5 (f : FuncId) (fn : Func) (hf : Tryz.pinned.checked.prog.funcNamed "abecedary/abecedarylaw14.DictCompacts" = some f) (hfn : Tryz.pinned.checked.prog.funcs[f]? = some fn) :
 true=Tryz.pinned.checked.prog.looks []∧∀(j:Nat) t,fn.params[j]?=some t→Tryz.pinned.checked.prog.wantsStandIn t=false:=by
 obtain rfl : f = 7 := Option.some.inj ((show Tryz.prog.funcNamed "abecedary/abecedarylaw14.DictCompacts" = some 7 by kernel_rfl).symm.trans hf) |>.symm;obtain rfl:fn=Tryz.f7:=(Option.some.inj (Tryz.func7.symm.trans hfn)).symm;refine⟨by kernel_rfl,fun j t ht=>?_⟩;rw[Tryz.params7]at ht;have hm:=Array.mem_of_getElem? ht;simp only[List.mem_toArray,List.mem_cons,List.not_mem_nil,or_false]at hm;rcases hm with rfl|rfl|rfl
 · exact(show Tryz.prog.wantsStandIn 22=false by kernel_rfl)
 · exact(show Tryz.prog.wantsStandIn 23=false by kernel_rfl)
 · exact(show Tryz.prog.wantsStandIn 49=false by kernel_rfl)
theorem dcomp_card:Rows.DictCompactsCardSaid:=
 Claim7.holds_tied_plain_at .later [] _ _ _ _ zS2 (fun _ h=>by cases h) (by kernel_rfl) (fun _ h=>by cases h) dictCompacts_row_tie rfl ⟨rfl,rfl⟩ (by kernel_rfl) rfl zO5 (by kernel_rfl)
end
