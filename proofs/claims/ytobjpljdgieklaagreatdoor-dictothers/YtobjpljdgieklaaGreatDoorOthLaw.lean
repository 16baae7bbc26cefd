/- PROVED: what is done to one word does not bear on what is told of another one (P14.6)
   Conditions: none: every input that can be -/
import Derived.Test.YtobjpljdgieklaaGreatDoorOpsIn
import Derived.Deep.Slices
set_option maxRecDepth 100000
set_option maxHeartbeats 8000000
namespace Go.Proofs.YtobjpljdgieklaaGreatDoor
section
open Go.RowKit Go.Shelf Go.Lib Nums Fm Pk Pm Fz Ed Lv Di
theorem zWx{M:List Pr}(hb:zAf M=0){o:Oo}{s:ByteArray}(h:o.2.1≠s):Pm.find (Di.stepL M o) s=Pm.find M s:=by
 unfold Di.stepL
 split
 · unfold setL
   split
   · rw[put,(zH1 lessB_sto _ _ (zEk hb)).2.2,if_neg h]
   · rfl
 · split
   · unfold remL
     split
     · rw[zK0,if_neg h]
     · rfl
   · rfl
theorem doth_walk(v:Value)(o:Oo)(s:ByteArray)(w:World)(ht:Tabs w)(L:List Pr)(h:PRow w v L)(hs:Sm L)(hl:L.length≤9223372036854775807)(ho:o.2.1.size≤9223372036854775807)(hsz:s.size≤maxLen):
 Calls Tryz.prog 11 #[v,opV o,.string s] w fun e w'=>e = .returned (.bool true)∧Below w.heap.size w w':=by
 have hsz:s.size≤9223372036854775807:=by unfold maxLen at hsz;omega
 obtain⟨W0,hW0⟩:∃W0,W0=w.alloc (.cells #[.int .i64 o.1,.string o.2.1,.int .i64 o.2.2] 29):=⟨_,rfl⟩;obtain⟨ob,hob⟩:∃ob,ob=w.heap.size:=⟨_,rfl⟩;have hb0:Below w.heap.size w W0:=by rw[hW0];exact(Below.refl _ w).alloc (Nat.le_refl _) _
 have hn0:W0.heap[ob]?=some (.cells #[.int .i64 o.1,.string o.2.1,.int .i64 o.2.2] 29):=by rw[hW0,hob];exact zAb _ _
 have HB:Hid (∀W,Below W0.heap.size W0 W→Below w.heap.size w W):=fun W hW=>hb0.trans (hW.mono hb0.size)
 have HAL:Hid (∀W,Below W0.heap.size W0 W→Calls Tryz.prog 14 #[] W fun e w'=>e = .returned (.bool true)∧Below W.heap.size W w'):=fun W hW=>zCq W (ht.below (HB.out W hW))
 have HQ:Hid (∀W,Below W0.heap.size W0 W→W.cell? ⟨ob,0,none⟩=some (.int .i64 o.1)∧W.cell? ⟨ob,1,none⟩=some (.string o.2.1)∧W.cell? ⟨ob,2,none⟩=some (.int .i64 o.2.2)):=fun W hW=>by
  have:=(hW.block ob (Array.getElem?_eq_some_iff.1 hn0).1).trans hn0;exact⟨by simp[World.cell?,this],by simp[World.cell?,this],by simp[World.cell?,this]⟩
 obtain⟨vd,vc,hv⟩:=h.form;have hz:ORow W0.heap.size W0 (.slice none 0 0) []:=ORow.nil _ _;have hzs:OSm []:=fun o ho=>by cases ho
 by_cases hc:skip [] L∨zAf L≠0
 · have HBG:Hid (Calls Tryz.prog 13 #[v,.slice none 0 0] W0 fun e w'=>e = .returned (.tuple #[.pointer none,.slice none 0 0,.bool true])∧Below W0.heap.size W0 w'):=zEl W0 (ht.below hb0) v _ L _ [] (h.below hb0) hs hl hz hc
   subst hv;generalize L.length=n at *;clear h hs hz hzs hsz ho hc ht hl hb0 hn0 HQ;obtain⟨ok,os,on⟩:=o;unfold opV;simp only at *;go_enter Tryz.func11,Tryz.ntmps11;(go_upto_region 1 with fail);rw[←hW0];clear hW0 hob
   go_wp2_with (first
    |(go_at_call 13;refine HBG.out.mono ?_;rintro e w1 ⟨rfl,hb1⟩;have HB1:Hid (Below W0.heap.size W0 w1):=hb1;clear hb1)
    |(go_at_call 14;refine(HAL.out _ HB1.out).mono ?_;rintro e w2 ⟨rfl,hb2⟩;have HB2:Hid (Below W0.heap.size W0 w2):=HB1.out.trans (hb2.mono HB1.out.size);clear hb2))
   go_ret;exact⟨by first|rfl|simp,HB.out _ HB2.out⟩
 · have HBG:Hid (Calls Tryz.prog 13 #[v,.slice none 0 0] W0 fun e w'=>∃db ad n cap,e = .returned (.tuple #[.pointer (some ⟨db,0,none⟩),.slice ad n cap,.bool true])∧BSt W0.heap.size w' db (.slice ad n cap) L∧Below W0.heap.size W0 w'):=zHn W0 (ht.below hb0) v _ L _ (Nat.le_refl _) [] (h.below hb0) hs hz hzs hc
   (have hbl:zAf L=0:=by by_cases e:zAf L=0;exact e;exact absurd (.inr e) hc);(have HF:Hid (∀W db u,BSt W0.heap.size W db u L→Calls Tryz.prog 21 #[u,.string s] W fun e w'=>e = .returned (.tuple #[.int .i64 ((Pm.find L s).getD 0),.bool (Pm.find L s).isSome])∧w'=W):=fun W db u hb=>hb.rfind s);(have HDO:Hid (∀W db u,BSt W0.heap.size W db u L→Calls Tryz.prog 15 #[.pointer (some ⟨db,0,none⟩),u,opV o] W fun e w'=>∃ad n cap,e = .returned (.tuple #[.slice ad n cap,.bool true])∧BSt W0.heap.size w' db (.slice ad n cap) (Di.stepL L o)∧Below W0.heap.size W w'):=fun W db u hb=>zLj _ W db u L hb o ho);(have HW:Hid (∀W db u,BSt W0.heap.size W db u (Di.stepL L o)→Calls Tryz.prog 20 #[.pointer (some ⟨db,0,none⟩),.string s] W fun e w'=>e = .returned (.tuple #[.int .i64 ((Pm.find (Di.stepL L o) s).getD 0),.bool (Pm.find (Di.stepL L o) s).isSome])∧Below W.heap.size W w'):=fun W db u hb=>hb.find s hsz);subst hv;by_cases hws:o.2.1=s
   · have hse:(o.2.1.toList==s.toList)=true:=by rw[zD0];exact decide_eq_true hws
     generalize L.length=n at *;clear h hs hz hzs hsz ho hc ht hl hb0 hn0 HF HDO HW hws hbl;obtain⟨ok,os,on⟩:=o;unfold opV;simp only at *;go_enter Tryz.func11,Tryz.ntmps11;(go_upto_region 1 with fail);rw[←hob,←hW0];clear hW0 hob
     go_wp2_with (first
      |(go_at_call 13;refine HBG.out.mono ?_;rintro e w1 ⟨db,ad,an,ac,rfl,_,hb1⟩;have HB1:Hid (Below W0.heap.size W0 w1):=hb1;obtain⟨y0,y1,y2⟩:=HQ.out w1 hb1;clear hb1)
      |(go_at_call 14;refine(HAL.out _ HB1.out).mono ?_;rintro e w2 ⟨rfl,hb2⟩;have HB2:Hid (Below W0.heap.size W0 w2):=HB1.out.trans (hb2.mono HB1.out.size);clear hb2))
     go_ret;exact⟨by first|rfl|simp,HB.out _ HB2.out⟩
   · have hse:(o.2.1.toList==s.toList)=false:=by rw[zD0];exact decide_eq_false hws
     rw[zWx hbl hws]at HW;generalize (Pm.find L s).getD 0=fx at *;generalize (Pm.find L s).isSome=fb at *;(have q1:(fx==fx)=true:=by simp);(have q2:(fb==fb)=true:=by simp);generalize L.length=n at *;clear h hs hz hzs hsz ho hc ht hl hb0 hn0 hws hbl;obtain⟨ok,os,on⟩:=o;unfold opV at *;simp only at *;go_enter Tryz.func11,Tryz.ntmps11;(go_upto_region 1 with fail);rw[←hob,←hW0];clear hW0 hob
     go_wp2_with (first
      |(go_at_call 13;refine HBG.out.mono ?_;rintro e w1 ⟨db,ad,an,ac,rfl,hs1,hb1⟩;have HS1:Hid (BSt W0.heap.size w1 db (.slice ad an ac) L∧Below W0.heap.size W0 w1):=⟨hs1,hb1⟩;obtain⟨y0,y1,y2⟩:=HQ.out w1 hb1;clear hs1 hb1)
      |(go_at_call 21;refine(HF.out _ _ _ HS1.out.1).mono ?_;rintro e w3 ⟨rfl,hw3⟩;rw[hw3];clear hw3)
      |(go_at_call 15;refine(HDO.out _ _ _ HS1.out.1).mono ?_;rintro e w4 ⟨a4,n4,c4,rfl,hs4,hb4⟩;have HS4:Hid (BSt W0.heap.size w4 db (.slice a4 n4 c4) (Di.stepL L (ok,os,on))∧Below W0.heap.size W0 w4):=⟨hs4,HS1.out.2.trans hb4⟩;clear hs4 hb4 y0 y1 y2)
      |(go_at_call 20;refine(HW.out _ _ _ HS4.out.1).mono ?_;rintro e w5 ⟨rfl,hb5⟩;have HB5:Hid (Below W0.heap.size W0 w5):=HS4.out.2.trans (hb5.mono HS4.out.2.size);clear hb5)
      |(go_at_call 14;refine(HAL.out _ HB5.out).mono ?_;rintro e w6 ⟨rfl,hb6⟩;have HB6:Hid (Below W0.heap.size W0 w6):=HB5.out.trans (hb6.mono HB5.out.size);clear hb6))
     go_ret;exact⟨by first|rfl|simp,HB.out _ HB6.out⟩
end
section
open Go.ChangeShapes Go.WideShapes Go.ChangeAt Go.RowKit
open Go.ChangeMaps (open_string shut_string)
theorem doth_contract(H:Type)(enc:TypeId×Value→H)(W:World)(base:Nat)(args:Array Value)(ds gs:List (DataW H))(before:List MemPlace)
 (hval:∀(j:Nat) t v,Tryz.f11.params[j]?=some t→args[j]?=some v→Value.okWide Tryz.prog W .any base t v)
 (hW:DataW.Whole enc Tryz.prog Tryz.f11.params.toList Rows.dictOthersSpec.vars false W args.toList ds gs before) (hL:laidMetH Tryz.prog Rows.dictOthersRow.laid W):
 Calls Tryz.prog 11 args W fun e W'=>∃v,e = .returned v∧Rows.dictOthersSpec.post enc Tryz.prog Tryz.f11 false true false false W args v W':=by
 have hW':=hW;obtain⟨p,q,hA0,hV,rfl,hfz,hnd⟩:=hW;have hA:DataW.TrodAll enc Tryz.prog W 0 (fun _=>true) true Tryz.f11.params.toList args.toList ds p:=hA0;rw[Tryz.params11]at hA hval;obtain⟨v0,vs0,d0,ds0,p0,q0,hargs,rfl,rfl,h0,r0⟩:=trodAll_cons hA;obtain⟨v1,vs1,d1,ds1,p1,q1,rfl,rfl,rfl,h1,r1⟩:=trodAll_cons r0;obtain⟨v2,vs2,d2,ds2,p2,q2,rfl,rfl,rfl,h2,r2⟩:=trodAll_cons r1;obtain⟨rfl,rfl,rfl⟩:=trodAll_nil r2;obtain rfl:args=#[v0,v1,v2]:=by cases args;simp_all
 obtain⟨rfl,rfl⟩:=trodVars_none hV;obtain⟨L0,hR0,hS0,hl0,hbig0⟩:=zFm (hval 0 22 v0 rfl rfl) h0;obtain⟨x1,rfl,hx1⟩:=Di.op_in (hval 1 29 v1 rfl rfl) h1;obtain⟨a2,rfl,rfl,rfl,w2⟩:=open_string Tryz.underlying9 (hval 2 9 v2 rfl rfl) h2;clear hA0;simp only[List.append_nil]at hW';refine(doth_walk v0 x1 a2 W (zB6 hL) L0 hR0 hS0 hl0 hx1 w2).mono fun e W' ⟨he,hb⟩=>?_
 subst he;have harg1:=Below.trod zCa (by kernel_rfl) (of_decide_eq_true (by kernel_rfl)) h1 hb (fun x hx=>hW'.lt x (by simp[hx]));have harg0:=Below.trod zCa (by kernel_rfl) (of_decide_eq_true (by kernel_rfl)) h0 hb (fun x hx=>hW'.lt x (by simp[hx]))
 exact⟨_,rfl,_,_,_,[],_,[],hW',trodAll_cons_mk (shut_bool Tryz.underlying4 _) trodAll_mk0,
  trodAll_cons_mk harg0 (trodAll_cons_mk harg1 (trodAll_cons_mk (shut_string Tryz.underlying9 w2) trodAll_mk0)),rfl,hb.frame _,fun h=>by cases h⟩
theorem zW6(os:Os):laidMet Tryz.prog Rows.dictOthersRow.laid ((laidWorld os).forCall (fun _ _=>0) ⟨#[],#[.slice none 0 0,.agg #[.int .i64 0,.string .empty,.int .i64 0],.string .empty],[]⟩).memory:=
 laidMet_of_run' 8 (by kernel_rfl) (by kernel_rfl)
theorem zSy(os:Os){H:Type}(enc:TypeId×Value→H):∃places,DataW.whole enc Tryz.prog ((laidWorld os).forCall (fun _ _=>0) ⟨#[],#[.slice none 0 0,.agg #[.int .i64 0,.string .empty,.int .i64 0],.string .empty],[]⟩).memory Tryz.f11.params.toList Rows.dictOthersSpec.vars false #[Value.slice none 0 0,Value.agg #[.int .i64 0,.string .empty,.int .i64 0],Value.string .empty].toList 8=some ([.nil,.agg [.lit (.int .i64 0),.lit (.string []),.lit (.int .i64 0)],.lit (.string [])],[],places):=
 ⟨[],by kernel_rfl⟩
theorem zO3(os:Os)(started:os.Started)(H:Type)(enc:TypeId×Value→H)(F:Stop.Interp):
 ReturnsInHanded {} Tryz.checked os 11 .any ((OpenSpec.ofChange Rows.dictOthersSpec).preRow enc Tryz.prog Tryz.f11 Rows.dictOthersRow.domain false Rows.dictOthersRow.laid) (((OpenSpec.ofChange Rows.dictOthersSpec).at F).post enc Tryz.prog Tryz.f11 false true false false):=by
 obtain⟨places,hx⟩:=zSy os enc
 refine returnsInHanded_of_row (C:=Tryz.checked) (s:=OpenSpec.ofChange Rows.dictOthersSpec) own started (by kernel_rfl) Tryz.func11
  (witness_row_at (enc:=enc) (C:=Tryz.checked) false (laidWorld os) #[.slice none 0 0,.agg #[.int .i64 0,.string .empty,.int .i64 0],.string .empty] rfl (by kernel_rfl) (by kernel_rfl) (by kernel_rfl)
   (OpenSpec.preRow_of_cond 8 hx (by kernel_rfl) (fun k hk=>by cases hk) (by kernel_rfl) (zW6 os))) ?_
 intro W base args ds gs before hval hW _ _ _ hL _ _;exact doth_contract H enc W base args ds gs before hval hW hL
theorem zW5:Rows.DictOthersSaid:=
 OpenClaim.holds_of_cond 11 Tryz.f11 rfl rfl rfl rfl rfl rfl rfl ⟨rfl,rfl,rfl,rfl,rfl⟩ rfl rfl rfl rfl rfl (by kernel_rfl) Tryz.func11 (by kernel_rfl)
  (of_decide_eq_true (by kernel_rfl)) (by unfold Func.isWrapper;first|(rw[if_pos (by decide +kernel)];kernel_rfl)|(rw[if_neg (by decide +kernel)];exact⟨rfl,rfl⟩))
  (fun os started H enc _ F=>by rw[OpenClaim.pre_eq_preRow];exact zO3 os started H enc F)
theorem zSz (f : FuncId) (fn : Func) (hf : Tryz.pinned.checked.prog.funcNamed "abecedary/abecedarylaw14.DictOthers" = some f) (hfn : Tryz.pinned.checked.prog.funcs[f]? = some fn) :
 true=Tryz.pinned.checked.prog.looks []∧∀(j:Nat) t,fn.params[j]?=some t→Tryz.pinned.checked.prog.wantsStandIn t=false:=by
 obtain rfl : f = 11 := Option.some.inj ((show Tryz.prog.funcNamed "abecedary/abecedarylaw14.DictOthers" = some 11 by kernel_rfl).symm.trans hf) |>.symm;obtain rfl:fn=Tryz.f11:=(Option.some.inj (Tryz.func11.symm.trans hfn)).symm;refine⟨by kernel_rfl,fun j t ht=>?_⟩;rw[Tryz.params11]at ht;have hm:=Array.mem_of_getElem? ht;simp only[List.mem_toArray,List.mem_cons,List.not_mem_nil,or_false]at hm;rcases hm with rfl|rfl|rfl
 · exact(show Tryz.prog.wantsStandIn 22=false by kernel_rfl)
 · exact(show Tryz.prog.wantsStandIn 29=false by kernel_rfl)
 · exact(show Tryz.prog.wantsStandIn 9=false by kernel_rfl)
theorem doth_card:Rows.DictOthersCardSaid:=
 Claim7.holds_tied_plain_at .later [] _ _ _ _ zW5 (fun _ h=>by cases h) (by kernel_rfl) (fun _ h=>by cases h) dictOthers_row_tie rfl ⟨rfl,rfl⟩ (by kernel_rfl) rfl zSz (by kernel_rfl)
end
