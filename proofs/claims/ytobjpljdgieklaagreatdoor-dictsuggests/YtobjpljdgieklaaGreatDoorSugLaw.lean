/- PROVED: what is suggested is the best of all words within the edits, behind any script of calls on any dictionary, also where a machine is built between (P14.4, P14.6)
   Conditions: none: every input that can be -/
import Derived.Test.YtobjpljdgieklaaGreatDoorJ53
import Derived.Deep.Slices
set_option maxRecDepth 100000
set_option maxHeartbeats 8000000
namespace Go.Proofs.YtobjpljdgieklaaGreatDoor
section
open Go.RowKit Go.Shelf Go.Lib Nums Fm Pk Pm Fz Ed Lv Di
theorem dsug_walk(v z:Value)(q:Mt)(w:World)(ht:Tabs w)(L:List Pr)(h:PRow w v L)(hs:Sm L)(hl:L.length≤9223372036854775807)(Z:List Oo)(hz:ORow w.heap.size w z Z)(hzs:OSm Z)(hq:SmM q):
 Calls Tryz.prog 6 #[v,z,.agg #[.string q.1,.int .i64 q.2.1,.int .i64 q.2.2]] w fun e w'=>e = .returned (.bool true)∧Below w.heap.size w w':=by
 have hqs:q.1.size≤9223372036854775807:=hq;obtain⟨W0,hW0⟩:∃W0,W0=w.alloc (.cells #[.string q.1,.int .i64 q.2.1,.int .i64 q.2.2] 49):=⟨_,rfl⟩;obtain⟨qb,hqb⟩:∃qb,qb=w.heap.size:=⟨_,rfl⟩;have hb0:Below w.heap.size w W0:=by rw[hW0];exact(Below.refl _ w).alloc (Nat.le_refl _) _
 have hn0:W0.heap[qb]?=some (.cells #[.string q.1,.int .i64 q.2.1,.int .i64 q.2.2] 49):=by rw[hW0,hqb];exact zAb _ _
 have HB:Hid (∀W,Below W0.heap.size W0 W→Below w.heap.size w W):=fun W hW=>hb0.trans (hW.mono hb0.size)
 have HAL:Hid (∀W,Below W0.heap.size W0 W→Calls Tryz.prog 14 #[] W fun e w'=>e = .returned (.bool true)∧Below W.heap.size W w'):=fun W hW=>zPk W (ht.below (HB.out W hW))
 have HQ:Hid (∀W,Below W0.heap.size W0 W→W.cell? ⟨qb,0,none⟩=some (.string q.1)∧W.cell? ⟨qb,1,none⟩=some (.int .i64 q.2.1)∧W.cell? ⟨qb,2,none⟩=some (.int .i64 q.2.2)):=fun W hW=>by
  have:=(hW.block qb (Array.getElem?_eq_some_iff.1 hn0).1).trans hn0;exact⟨by simp[World.cell?,this],by simp[World.cell?,this],by simp[World.cell?,this]⟩
 obtain⟨vd,vc,hv⟩:=h.form;obtain⟨zd,zc,hzv⟩:=hz.form;by_cases hc:skip Z L∨zAj L≠0
 · have HBG:Hid (Calls Tryz.prog 13 #[v,z] W0 fun e w'=>e = .returned (.tuple #[.pointer none,.slice none 0 0,.bool true])∧Below W0.heap.size W0 w'):=zXi W0 (ht.below hb0) v z L _ Z (h.below hb0) hs hl (hz.below hb0) hc
   subst hv;subst hzv;generalize L.length=n at *;generalize Z.length=m at *;clear h hs hz hzs hq hqs hc ht hl hb0 hn0 HQ;go_enter Tryz.func6,Tryz.ntmps6;(go_upto_region 1 with fail);rw[←hW0];clear hW0 hqb
   go_wp2_with (first
    |(go_at_call 13;refine HBG.out.mono ?_;rintro e w1 ⟨rfl,hb1⟩;have HB1:Hid (Below W0.heap.size W0 w1):=hb1;clear hb1)
    |(go_at_call 14;refine(HAL.out _ HB1.out).mono ?_;rintro e w2 ⟨rfl,hb2⟩;have HB2:Hid (Below W0.heap.size W0 w2):=HB1.out.trans (hb2.mono HB1.out.size);clear hb2))
   go_ret;exact⟨by first|rfl|simp,HB.out _ HB2.out⟩
 · have HBG:Hid (Calls Tryz.prog 13 #[v,z] W0 fun e w'=>∃db ad n cap,e = .returned (.tuple #[.pointer (some ⟨db,0,none⟩),.slice ad n cap,.bool true])∧BSt W0.heap.size w' db (.slice ad n cap) (Z.foldl stepL L)∧Below W0.heap.size W0 w'):=begun_on W0 (ht.below hb0) v z L _ hb0.size Z (h.below hb0) hs (hz.below hb0) hzs hc
   obtain⟨M,hM⟩:∃M,Z.foldl stepL L=M:=⟨_,rfl⟩;rw[hM]at HBG
   have HSG:Hid (∀W db u,BSt W0.heap.size W db u M→Calls Tryz.prog 22 #[.pointer (some ⟨db,0,none⟩),.agg #[.string q.1,.int .i64 q.2.1,.int .i64 q.2.2]] W fun e w'=>∃ad n cap,e = .returned (.tuple #[.slice ad n cap,.int .i64 (allC q.1.data.toList q.2.1)])∧MRow w' (.slice ad n cap) (sugL M q)∧Below W.heap.size W w'):=fun W db u hb=>(hb.sug q hqs).mono (by
    rintro e w' ⟨ad,n,cap,rfl,h1,_,h3⟩;exact⟨ad,n,cap,rfl,h1,h3⟩)
   (have HRS:Hid (∀W db u,BSt W0.heap.size W db u M→Calls Tryz.prog 23 #[u,.agg #[.string q.1,.int .i64 q.2.1,.int .i64 q.2.2]] W fun e w'=>∃ad n cap,e = .returned (.tuple #[.slice ad n cap,.int .i64 (allC q.1.data.toList q.2.1)])∧MRow w' (.slice ad n cap) (sugL M q)∧Below W.heap.size W w'):=fun W db u hb=>zIz W u M hb.row hb.built q hqs);(have HSM:Hid (∀W db u a b,BSt W0.heap.size W db u M→MRow W a (sugL M q)→MRow W b (sugL M q)→Calls Tryz.prog 24 #[a,b] W fun e w'=>e = .returned (.bool true)∧Below W.heap.size W w'):=fun W db u a b hb k1 k2=>zOb W a b _ k1 k2 (by have:=sug_len hb.built q;omega));generalize allC q.1.data.toList q.2.1=C at *;generalize sugL M q=R at *;(have q1:(C==C)=true:=by simp);subst hv;subst hzv;generalize L.length=n at *;generalize Z.length=m at *;clear h hs hz hzs hq hqs hc ht hl hM hb0 hn0;obtain⟨qs,qe,qk⟩:=q;simp only at *;go_enter Tryz.func6,Tryz.ntmps6;(go_upto_region 1 with fail);rw[←hqb,←hW0];clear hW0 hqb
   go_wp2_with (first
    |(go_at_call 13;refine HBG.out.mono ?_;rintro e w1 ⟨db,ad,an,ac,rfl,hs1,hb1⟩;have HS1:Hid (BSt W0.heap.size w1 db (.slice ad an ac) M∧Below W0.heap.size W0 w1):=⟨hs1,hb1⟩;obtain⟨y0,y1,y2⟩:=HQ.out w1 hb1;clear hs1 hb1)
    |(go_at_call 22;refine(HSG.out _ _ _ HS1.out.1).mono ?_;rintro e w2 ⟨a2,n2,c2,rfl,hm2,hb2⟩;have HS2:Hid (BSt W0.heap.size w2 db (.slice ad an ac) M∧Below W0.heap.size W0 w2∧MRow w2 (.slice a2 n2 c2) R):=⟨HS1.out.1.below hb2,HS1.out.2.trans (hb2.mono HS1.out.2.size),hm2⟩;obtain⟨z0,z1,z2⟩:=HQ.out w2 HS2.out.2.1;clear hb2 hm2 y0 y1 y2)
    |(go_at_call 23;refine(HRS.out _ _ _ HS2.out.1).mono ?_;rintro e w3 ⟨a3,n3,c3,rfl,hm3,hb3⟩;have HS3:Hid (BSt W0.heap.size w3 db (.slice ad an ac) M∧Below W0.heap.size W0 w3∧MRow w3 (.slice a2 n2 c2) R∧MRow w3 (.slice a3 n3 c3) R):=⟨HS2.out.1.below hb3,HS2.out.2.1.trans (hb3.mono HS2.out.2.1.size),HS2.out.2.2.below hb3,hm3⟩;clear hb3 hm3 z0 z1 z2)
    |(go_at_call 14;refine(HAL.out _ HS3.out.2.1).mono ?_;rintro e w4 ⟨rfl,hb4⟩;have HS4:Hid (BSt W0.heap.size w4 db (.slice ad an ac) M∧Below W0.heap.size W0 w4∧MRow w4 (.slice a2 n2 c2) R∧MRow w4 (.slice a3 n3 c3) R):=⟨HS3.out.1.below hb4,HS3.out.2.1.trans (hb4.mono HS3.out.2.1.size),HS3.out.2.2.1.below hb4,HS3.out.2.2.2.below hb4⟩;clear hb4)
    |(go_at_call 24;refine(HSM.out _ _ _ _ _ HS4.out.1 HS4.out.2.2.1 HS4.out.2.2.2).mono ?_;rintro e w5 ⟨rfl,hb5⟩;have HB5:Hid (Below W0.heap.size W0 w5):=HS4.out.2.1.trans (hb5.mono HS4.out.2.1.size);clear hb5))
   go_ret;exact⟨by first|rfl|simp,HB.out _ HB5.out⟩
end
section
open Go.ChangeShapes Go.WideShapes Go.ChangeAt Go.RowKit
open Go.ChangeMaps (open_string shut_string)
theorem dsug_contract(H:Type)(enc:TypeId×Value→H)(W:World)(base:Nat)(args:Array Value)(ds gs:List (DataW H))(before:List MemPlace)
 (hval:∀(j:Nat) t v,Tryz.f6.params[j]?=some t→args[j]?=some v→Value.okWide Tryz.prog W .any base t v)
 (hW:DataW.Whole enc Tryz.prog Tryz.f6.params.toList Rows.dictSuggestsSpec.vars false W args.toList ds gs before) (hL:laidMetH Tryz.prog Rows.dictSuggestsRow.laid W):
 Calls Tryz.prog 6 args W fun e W'=>∃v,e = .returned v∧Rows.dictSuggestsSpec.post enc Tryz.prog Tryz.f6 false true false false W args v W':=by
 have hW':=hW;obtain⟨p,q,hA0,hV,rfl,hfz,hnd⟩:=hW;have hA:DataW.TrodAll enc Tryz.prog W 0 (fun _=>true) true Tryz.f6.params.toList args.toList ds p:=hA0;rw[Tryz.params6]at hA hval;obtain⟨v0,vs0,d0,ds0,p0,q0,hargs,rfl,rfl,h0,r0⟩:=trodAll_cons hA;obtain⟨v1,vs1,d1,ds1,p1,q1,rfl,rfl,rfl,h1,r1⟩:=trodAll_cons r0;obtain⟨v2,vs2,d2,ds2,p2,q2,rfl,rfl,rfl,h2,r2⟩:=trodAll_cons r1;obtain⟨rfl,rfl,rfl⟩:=trodAll_nil r2;obtain rfl:args=#[v0,v1,v2]:=by cases args;simp_all
 obtain⟨rfl,rfl⟩:=trodVars_none hV;obtain⟨L0,hR0,hS0,hl0,hbig0⟩:=pairs_in (hval 0 22 v0 rfl rfl) h0;obtain⟨L1,hR1,hS1,hbig1⟩:=Di.ops_in (hval 1 23 v1 rfl rfl) h1;obtain⟨x2,rfl,hx2⟩:=query_in (hval 2 49 v2 rfl rfl) h2;clear hA0;simp only[List.append_nil]at hW';refine(dsug_walk v0 v1 x2 W (zMd hL) L0 hR0 hS0 hl0 L1 hR1 hS1 hx2).mono fun e W' ⟨he,hb⟩=>?_
 subst he;have harg2:=Below.trod zOt (by kernel_rfl) (of_decide_eq_true (by kernel_rfl)) h2 hb (fun x hx=>hW'.lt x (by simp[hx]));have harg1:=Below.trod zOt (by kernel_rfl) (of_decide_eq_true (by kernel_rfl)) h1 hb (fun x hx=>hW'.lt x (by simp[hx]));have harg0:=Below.trod zOt (by kernel_rfl) (of_decide_eq_true (by kernel_rfl)) h0 hb (fun x hx=>hW'.lt x (by simp[hx]))
 exact⟨_,rfl,_,_,_,[],_,[],hW',trodAll_cons_mk (shut_bool Tryz.underlying4 _) trodAll_mk0,
  trodAll_cons_mk harg0 (trodAll_cons_mk harg1 (trodAll_cons_mk harg2 trodAll_mk0)),rfl,hb.frame _,fun h=>by cases h⟩
theorem zWo(os:Os):laidMet Tryz.prog Rows.dictSuggestsRow.laid ((laidWorld os).forCall (fun _ _=>0) ⟨#[],#[.slice none 0 0,.slice none 0 0,.agg #[.string .empty,.int .i64 0,.int .i64 0]],[]⟩).memory:=
 laidMet_of_run' 8 (by kernel_rfl) (by kernel_rfl)
theorem zSo(os:Os){H:Type}(enc:TypeId×Value→H):∃places,DataW.whole enc Tryz.prog ((laidWorld os).forCall (fun _ _=>0) ⟨#[],#[.slice none 0 0,.slice none 0 0,.agg #[.string .empty,.int .i64 0,.int .i64 0]],[]⟩).memory Tryz.f6.params.toList Rows.dictSuggestsSpec.vars false #[Value.slice none 0 0,Value.slice none 0 0,Value.agg #[.string .empty,.int .i64 0,.int .i64 0]].toList 8=some ([.nil,.nil,.agg [.lit (.string []),.lit (.int .i64 0),.lit (.int .i64 0)]],[],places):=
 ⟨[],by kernel_rfl⟩
theorem zO3(os:Os)(started:os.Started)(H:Type)(enc:TypeId×Value→H)(F:Stop.Interp):
 ReturnsInHanded {} Tryz.checked os 6 .any ((OpenSpec.ofChange Rows.dictSuggestsSpec).preRow enc Tryz.prog Tryz.f6 Rows.dictSuggestsRow.domain false Rows.dictSuggestsRow.laid) (((OpenSpec.ofChange Rows.dictSuggestsSpec).at F).post enc Tryz.prog Tryz.f6 false true false false):=by
 obtain⟨places,hx⟩:=zSo os enc
 refine returnsInHanded_of_row (C:=Tryz.checked) (s:=OpenSpec.ofChange Rows.dictSuggestsSpec) own started (by kernel_rfl) Tryz.func6
  (witness_row_at (enc:=enc) (C:=Tryz.checked) false (laidWorld os) #[.slice none 0 0,.slice none 0 0,.agg #[.string .empty,.int .i64 0,.int .i64 0]] rfl (by kernel_rfl) (by kernel_rfl) (by kernel_rfl)
   (OpenSpec.preRow_of_cond 8 hx (by kernel_rfl) (fun k hk=>by cases hk) (by kernel_rfl) (zWo os))) ?_
 intro W base args ds gs before hval hW _ _ _ hL _ _;exact dsug_contract H enc W base args ds gs before hval hW hL
theorem zWn:Rows.DictSuggestsSaid:=
 OpenClaim.holds_of_cond 6 Tryz.f6 rfl rfl rfl rfl rfl rfl rfl ⟨rfl,rfl,rfl,rfl,rfl⟩ rfl rfl rfl rfl rfl (by kernel_rfl) Tryz.func6 (by kernel_rfl)
  (of_decide_eq_true (by kernel_rfl)) (by unfold Func.isWrapper;first|(rw[if_pos (by decide +kernel)];kernel_rfl)|(rw[if_neg (by decide +kernel)];exact⟨rfl,rfl⟩))
  (fun os started H enc _ F=>by rw[OpenClaim.pre_eq_preRow];exact zO3 os started H enc F)
theorem zSp (f : FuncId) (fn : Func) (hf : Tryz.pinned.checked.prog.funcNamed "abecedary/abecedarylaw14.DictSuggests" = some f) (hfn : Tryz.pinned.checked.prog.funcs[f]? = some fn) :
 true=Tryz.pinned.checked.prog.looks []∧∀(j:Nat) t,fn.params[j]?=some t→Tryz.pinned.checked.prog.wantsStandIn t=false:=by
 obtain rfl : f = 6 := Option.some.inj ((show Tryz.prog.funcNamed "abecedary/abecedarylaw14.DictSuggests" = some 6 by kernel_rfl).symm.trans hf) |>.symm;obtain rfl:fn=Tryz.f6:=(Option.some.inj (Tryz.func6.symm.trans hfn)).symm;refine⟨by kernel_rfl,fun j t ht=>?_⟩;rw[Tryz.params6]at ht;have hm:=Array.mem_of_getElem? ht;simp only[List.mem_toArray,List.mem_cons,List.not_mem_nil,or_false]at hm;rcases hm with rfl|rfl|rfl
 · exact(show Tryz.prog.wantsStandIn 22=false by kernel_rfl)
 · exact(show Tryz.prog.wantsStandIn 23=false by kernel_rfl)
 · exact(show Tryz.prog.wantsStandIn 49=false by kernel_rfl)
theorem dsug_card:Rows.DictSuggestsCardSaid:=
 Claim7.holds_tied_plain_at .later [] _ _ _ _ zWn (fun _ h=>by cases h) (by kernel_rfl) (fun _ h=>by cases h) dictSuggests_row_tie rfl ⟨rfl,rfl⟩ (by kernel_rfl) rfl zSp (by kernel_rfl)
end
