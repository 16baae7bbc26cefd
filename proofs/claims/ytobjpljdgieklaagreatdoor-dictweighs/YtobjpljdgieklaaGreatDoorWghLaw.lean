/- PROVED: of any text Weight tells the weight that it has behind any script of calls on any dictionary, or that it has none (P14.3)
   Conditions: none: every input that can be -/
import Derived.Test.YtobjpljdgieklaaGreatDoorOpsIn
import Derived.Deep.Slices
set_option maxRecDepth 100000
set_option maxHeartbeats 8000000
namespace Go.Proofs.YtobjpljdgieklaaGreatDoor
section
open Go.RowKit Go.Shelf Go.Lib Nums Fm Pk Pm Fz Ed Lv Di
theorem dweighs_walk(v z:Value)(s:ByteArray)(w:World)(ht:Tabs w)(L:List Pr)(h:PRow w v L)(hs:Sm L)(hl:L.length≤9223372036854775807)(Z:List Oo)(hz:ORow w.heap.size w z Z)(hzs:OSm Z)(hsz:s.size≤maxLen):
 Calls Tryz.prog 5 #[v,z,.string s] w fun e w'=>e = .returned (.bool true)∧Below w.heap.size w w':=by
 have hsz:s.size≤9223372036854775807:=by unfold maxLen at hsz;omega
 have HAL:Hid (∀W,Below w.heap.size w W→Calls Tryz.prog 14 #[] W fun e w'=>e = .returned (.bool true)∧Below W.heap.size W w'):=fun W hW=>zCq W (ht.below hW)
 obtain⟨vd,vc,hv⟩:=h.form;obtain⟨zd,zc,hzv⟩:=hz.form;by_cases hc:skip Z L∨zAf L≠0
 · have HBG:Hid (Calls Tryz.prog 13 #[v,z] w fun e w'=>e = .returned (.tuple #[.pointer none,.slice none 0 0,.bool true])∧Below w.heap.size w w'):=zEl w ht v z L _ Z h hs hl hz hc
   subst hv;subst hzv;generalize L.length=n at *;generalize Z.length=m at *;clear h hs hz hzs hsz hc ht hl;go_enter Tryz.func5,Tryz.ntmps5
   go_wp2_with (first
    |(go_at_call 13;refine HBG.out.mono ?_;rintro e w1 ⟨rfl,hb1⟩;have HB1:Hid (Below w.heap.size w w1):=hb1;clear hb1)
    |(go_at_call 14;refine(HAL.out _ HB1.out).mono ?_;rintro e w2 ⟨rfl,hb2⟩;have HB2:Hid (Below w.heap.size w w2):=HB1.out.trans (hb2.mono HB1.out.size);clear hb2))
   go_ret;exact⟨by first|rfl|simp,HB2.out⟩
 · have HBG:Hid (Calls Tryz.prog 13 #[v,z] w fun e w'=>∃db ad n cap,e = .returned (.tuple #[.pointer (some ⟨db,0,none⟩),.slice ad n cap,.bool true])∧BSt w.heap.size w' db (.slice ad n cap) (Z.foldl stepL L)∧Below w.heap.size w w'):=zHn w ht v z L _ (Nat.le_refl _) Z h hs hz hzs hc
   obtain⟨M,hM⟩:∃M,Z.foldl stepL L=M:=⟨_,rfl⟩;rw[hM]at HBG;(have HW:Hid (∀W db u,BSt w.heap.size W db u M→Calls Tryz.prog 20 #[.pointer (some ⟨db,0,none⟩),.string s] W fun e w'=>e = .returned (.tuple #[.int .i64 ((Pm.find M s).getD 0),.bool (Pm.find M s).isSome])∧Below W.heap.size W w'):=fun W db u hb=>hb.find s hsz);(have HF:Hid (∀W db u,BSt w.heap.size W db u M→Calls Tryz.prog 21 #[u,.string s] W fun e w'=>e = .returned (.tuple #[.int .i64 ((Pm.find M s).getD 0),.bool (Pm.find M s).isSome])∧w'=W):=fun W db u hb=>hb.rfind s);generalize (Pm.find M s).getD 0=fx at *;generalize (Pm.find M s).isSome=fb at *;(have q1:(fx==fx)=true:=by simp);(have q2:(fb==fb)=true:=by simp);subst hv;subst hzv;generalize L.length=n at *;generalize Z.length=m at *;clear h hs hz hzs hsz hc ht hl hM;go_enter Tryz.func5,Tryz.ntmps5
   go_wp2_with (first
    |(go_at_call 13;refine HBG.out.mono ?_;rintro e w1 ⟨db,ad,an,ac,rfl,hs1,hb1⟩;have HS1:Hid (BSt w.heap.size w1 db (.slice ad an ac) M∧Below w.heap.size w w1):=⟨hs1,hb1⟩;clear hs1 hb1)
    |(go_at_call 20;refine(HW.out _ _ _ HS1.out.1).mono ?_;rintro e w2 ⟨rfl,hb2⟩;have HS2:Hid (BSt w.heap.size w2 db (.slice ad an ac) M∧Below w.heap.size w w2):=⟨HS1.out.1.below hb2,HS1.out.2.trans (hb2.mono HS1.out.2.size)⟩;clear hb2)
    |(go_at_call 21;refine(HF.out _ _ _ HS2.out.1).mono ?_;rintro e w3 ⟨rfl,hw3⟩;rw[hw3];clear hw3)
    |(go_at_call 14;refine(HAL.out _ HS2.out.2).mono ?_;rintro e w4 ⟨rfl,hb4⟩;have HB4:Hid (Below w.heap.size w w4):=HS2.out.2.trans (hb4.mono HS2.out.2.size);clear hb4))
   go_ret;exact⟨by first|rfl|simp,HB4.out⟩
end
section
open Go.ChangeShapes Go.WideShapes Go.ChangeAt Go.RowKit
open Go.ChangeMaps (open_string shut_string)
theorem dweighs_contract(H:Type)(enc:TypeId×Value→H)(W:World)(base:Nat)(args:Array Value)(ds gs:List (DataW H))(before:List MemPlace)
 (hval:∀(j:Nat) t v,Tryz.f5.params[j]?=some t→args[j]?=some v→Value.okWide Tryz.prog W .any base t v)
 (hW:DataW.Whole enc Tryz.prog Tryz.f5.params.toList Rows.dictWeighsSpec.vars false W args.toList ds gs before) (hL:laidMetH Tryz.prog Rows.dictWeighsRow.laid W):
 Calls Tryz.prog 5 args W fun e W'=>∃v,e = .returned v∧Rows.dictWeighsSpec.post enc Tryz.prog Tryz.f5 false true false false W args v W':=by
 have hW':=hW;obtain⟨p,q,hA0,hV,rfl,hfz,hnd⟩:=hW;have hA:DataW.TrodAll enc Tryz.prog W 0 (fun _=>true) true Tryz.f5.params.toList args.toList ds p:=hA0;rw[Tryz.params5]at hA hval;obtain⟨v0,vs0,d0,ds0,p0,q0,hargs,rfl,rfl,h0,r0⟩:=trodAll_cons hA;obtain⟨v1,vs1,d1,ds1,p1,q1,rfl,rfl,rfl,h1,r1⟩:=trodAll_cons r0;obtain⟨v2,vs2,d2,ds2,p2,q2,rfl,rfl,rfl,h2,r2⟩:=trodAll_cons r1;obtain⟨rfl,rfl,rfl⟩:=trodAll_nil r2;obtain rfl:args=#[v0,v1,v2]:=by cases args;simp_all
 obtain⟨rfl,rfl⟩:=trodVars_none hV;obtain⟨L0,hR0,hS0,hl0,hbig0⟩:=zFm (hval 0 22 v0 rfl rfl) h0;obtain⟨L1,hR1,hS1,hbig1⟩:=Di.ops_in (hval 1 23 v1 rfl rfl) h1;obtain⟨a2,rfl,rfl,rfl,w2⟩:=open_string Tryz.underlying9 (hval 2 9 v2 rfl rfl) h2;clear hA0;simp only[List.append_nil]at hW';refine(dweighs_walk v0 v1 a2 W (zB6 hL) L0 hR0 hS0 hl0 L1 hR1 hS1 w2).mono fun e W' ⟨he,hb⟩=>?_
 subst he;have harg1:=Below.trod zCa (by kernel_rfl) (of_decide_eq_true (by kernel_rfl)) h1 hb (fun x hx=>hW'.lt x (by simp[hx]));have harg0:=Below.trod zCa (by kernel_rfl) (of_decide_eq_true (by kernel_rfl)) h0 hb (fun x hx=>hW'.lt x (by simp[hx]))
 exact⟨_,rfl,_,_,_,[],_,[],hW',trodAll_cons_mk (shut_bool Tryz.underlying4 _) trodAll_mk0,
  trodAll_cons_mk harg0 (trodAll_cons_mk harg1 (trodAll_cons_mk (shut_string Tryz.underlying9 w2) trodAll_mk0)),rfl,hb.frame _,fun h=>by cases h⟩
theorem zNd(os:Os):laidMet Tryz.prog Rows.dictWeighsRow.laid ((laidWorld os).forCall (fun _ _=>0) ⟨#[],#[.slice none 0 0,.slice none 0 0,.string .empty],[]⟩).memory:=
 laidMet_of_run' 8 (by kernel_rfl) (by kernel_rfl)
theorem zLh(os:Os){H:Type}(enc:TypeId×Value→H):∃places,DataW.whole enc Tryz.prog ((laidWorld os).forCall (fun _ _=>0) ⟨#[],#[.slice none 0 0,.slice none 0 0,.string .empty],[]⟩).memory Tryz.f5.params.toList Rows.dictWeighsSpec.vars false #[Value.slice none 0 0,Value.slice none 0 0,Value.string .empty].toList 8=some ([.nil,.nil,.lit (.string [])],[],places):=
 ⟨[],by kernel_rfl⟩
theorem zI7(os:Os)(started:os.Started)(H:Type)(enc:TypeId×Value→H)(F:Stop.Interp):
 ReturnsInHanded {} Tryz.checked os 5 .any ((OpenSpec.ofChange Rows.dictWeighsSpec).preRow enc Tryz.prog Tryz.f5 Rows.dictWeighsRow.domain false Rows.dictWeighsRow.laid) (((OpenSpec.ofChange Rows.dictWeighsSpec).at F).post enc Tryz.prog Tryz.f5 false true false false):=by
 obtain⟨places,hx⟩:=zLh os enc
 refine returnsInHanded_of_row (C:=Tryz.checked) (s:=OpenSpec.ofChange Rows.dictWeighsSpec) own started (by kernel_rfl) Tryz.func5
  (witness_row_at (enc:=enc) (C:=Tryz.checked) false (laidWorld os) #[.slice none 0 0,.slice none 0 0,.string .empty] rfl (by kernel_rfl) (by kernel_rfl) (by kernel_rfl)
   (OpenSpec.preRow_of_cond 8 hx (by kernel_rfl) (fun k hk=>by cases hk) (by kernel_rfl) (zNd os))) ?_
 intro W base args ds gs before hval hW _ _ _ hL _ _;exact dweighs_contract H enc W base args ds gs before hval hW hL
theorem zNc:Rows.DictWeighsSaid:=
 OpenClaim.holds_of_cond 5 Tryz.f5 rfl rfl rfl rfl rfl rfl rfl ⟨rfl,rfl,rfl,rfl,rfl⟩ rfl rfl rfl rfl rfl (by kernel_rfl) Tryz.func5 (by kernel_rfl)
  (of_decide_eq_true (by kernel_rfl)) (by unfold Func.isWrapper;first|(rw[if_pos (by decide +kernel)];kernel_rfl)|(rw[if_neg (by decide +kernel)];exact⟨rfl,rfl⟩))
  (fun os started H enc _ F=>by rw[OpenClaim.pre_eq_preRow];exact zI7 os started H enc F)
theorem zLi (f : FuncId) (fn : Func) (hf : Tryz.pinned.checked.prog.funcNamed "abecedary/abecedarylaw14.DictWeighs" = some f) (hfn : Tryz.pinned.checked.prog.funcs[f]? = some fn) :
 true=Tryz.pinned.checked.prog.looks []∧∀(j:Nat) t,fn.params[j]?=some t→Tryz.pinned.checked.prog.wantsStandIn t=false:=by
 obtain rfl : f = 5 := Option.some.inj ((show Tryz.prog.funcNamed "abecedary/abecedarylaw14.DictWeighs" = some 5 by kernel_rfl).symm.trans hf) |>.symm;obtain rfl:fn=Tryz.f5:=(Option.some.inj (Tryz.func5.symm.trans hfn)).symm;refine⟨by kernel_rfl,fun j t ht=>?_⟩;rw[Tryz.params5]at ht;have hm:=Array.mem_of_getElem? ht;simp only[List.mem_toArray,List.mem_cons,List.not_mem_nil,or_false]at hm;rcases hm with rfl|rfl|rfl
 · exact(show Tryz.prog.wantsStandIn 22=false by kernel_rfl)
 · exact(show Tryz.prog.wantsStandIn 23=false by kernel_rfl)
 · exact(show Tryz.prog.wantsStandIn 9=false by kernel_rfl)
theorem dweighs_card:Rows.DictWeighsCardSaid:=
 Claim7.holds_tied_plain_at .later [] _ _ _ _ zNc (fun _ h=>by cases h) (by kernel_rfl) (fun _ h=>by cases h) dictWeighs_row_tie rfl ⟨rfl,rfl⟩ (by kernel_rfl) rfl zLi (by kernel_rfl)
end
