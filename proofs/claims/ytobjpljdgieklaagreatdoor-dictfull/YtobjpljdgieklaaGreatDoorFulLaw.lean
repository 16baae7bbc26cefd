/- PROVED: there are never more words than there is room for: with 4096 words a further one is refused as often as it is tried, a word that is there takes another weight, and one that goes makes room again (P14.2)
   Conditions: none: every input that can be -/
import Derived.Test.YtobjpljdgieklaaGreatDoorDiFulW
import Derived.Test.YtobjpljdgieklaaGreatDoorJ44
import Derived.Deep.Slices
namespace Go.Proofs.YtobjpljdgieklaaGreatDoor
open Go.ChangeShapes Go.WideShapes Go.ChangeAt Go.RowKit
open Go.ChangeMaps (open_string shut_string)
set_option maxRecDepth 100000
theorem dfull_contract(H:Type)(enc:TypeId×Value→H)(W:World)(base:Nat)(args:Array Value)(ds gs:List (DataW H))(before:List MemPlace)
 (hval:∀(j:Nat) t v,Tryz.f12.params[j]?=some t→args[j]?=some v→Value.okWide Tryz.prog W .any base t v)
 (hW:DataW.Whole enc Tryz.prog Tryz.f12.params.toList Rows.dictFullSpec.vars false W args.toList ds gs before) (hL:laidMetH Tryz.prog Rows.dictFullRow.laid W):
 Calls Tryz.prog 12 args W fun e W'=>∃v,e = .returned v∧Rows.dictFullSpec.post enc Tryz.prog Tryz.f12 false true false false W args v W':=by
 have hW':=hW;obtain⟨p,q,hA0,hV,rfl,hfz,hnd⟩:=hW;have hA:DataW.TrodAll enc Tryz.prog W 0 (fun _=>true) true Tryz.f12.params.toList args.toList ds p:=hA0;rw[Tryz.params12]at hA hval;obtain⟨v0,vs0,d0,ds0,p0,q0,hargs,rfl,rfl,h0,r0⟩:=trodAll_cons hA;obtain⟨rfl,rfl,rfl⟩:=trodAll_nil r0;obtain rfl:args=#[v0]:=by cases args;simp_all
 obtain⟨rfl,rfl⟩:=trodVars_none hV;obtain⟨a0,rfl,rfl,rfl,w0⟩:=open_int Tryz.underlying3 (hval 0 3 v0 rfl rfl) h0;clear hA0;simp only[List.append_nil]at hW';refine(dfull_walk a0 W (zB6 hL) w0).mono fun e W' ⟨he,hb⟩=>?_
 subst he
 exact⟨_,rfl,_,_,_,[],_,[],hW',trodAll_cons_mk (shut_bool Tryz.underlying4 _) trodAll_mk0,
  trodAll_cons_mk (shut_int Tryz.underlying3 w0) trodAll_mk0,rfl,hb.frame _,fun h=>by cases h⟩
theorem dfull_laid(os:Os):laidMet Tryz.prog Rows.dictFullRow.laid ((laidWorld os).forCall (fun _ _=>0) ⟨#[],#[.int .i64 0],[]⟩).memory:=
 laidMet_of_run' 8 (by kernel_rfl) (by kernel_rfl)
theorem dfull_reads(os:Os){H:Type}(enc:TypeId×Value→H):∃places,DataW.whole enc Tryz.prog ((laidWorld os).forCall (fun _ _=>0) ⟨#[],#[.int .i64 0],[]⟩).memory Tryz.f12.params.toList Rows.dictFullSpec.vars false #[Value.int .i64 0].toList 8=some ([.lit (.int .i64 0)],[],places):=
 ⟨[],by kernel_rfl⟩
theorem dfull_lifted(os:Os)(started:os.Started)(H:Type)(enc:TypeId×Value→H)(F:Stop.Interp):
 ReturnsInHanded {} Tryz.checked os 12 .any ((OpenSpec.ofChange Rows.dictFullSpec).preRow enc Tryz.prog Tryz.f12 Rows.dictFullRow.domain false Rows.dictFullRow.laid) (((OpenSpec.ofChange Rows.dictFullSpec).at F).post enc Tryz.prog Tryz.f12 false true false false):=by
 obtain⟨places,hx⟩:=dfull_reads os enc
 refine returnsInHanded_of_row (C:=Tryz.checked) (s:=OpenSpec.ofChange Rows.dictFullSpec) own started (by kernel_rfl) Tryz.func12
  (witness_row_at (enc:=enc) (C:=Tryz.checked) false (laidWorld os) #[.int .i64 0] rfl (by kernel_rfl) (by kernel_rfl) (by kernel_rfl)
   (OpenSpec.preRow_of_cond 8 hx (by kernel_rfl) (fun k hk=>by cases hk) (by kernel_rfl) (dfull_laid os))) ?_
 intro W base args ds gs before hval hW _ _ _ hL _ _;exact dfull_contract H enc W base args ds gs before hval hW hL
theorem dfull_said:Rows.DictFullSaid:=
 OpenClaim.holds_of_cond 12 Tryz.f12 rfl rfl rfl rfl rfl rfl rfl ⟨rfl,rfl,rfl,rfl,rfl⟩ rfl rfl rfl rfl rfl (by kernel_rfl) Tryz.func12 (by kernel_rfl)
  (of_decide_eq_true (by kernel_rfl)) (by unfold Func.isWrapper;first|(rw[if_pos (by decide +kernel)];kernel_rfl)|(rw[if_neg (by decide +kernel)];exact⟨rfl,rfl⟩))
  (fun os started H enc _ F=>by rw[OpenClaim.pre_eq_preRow];exact dfull_lifted os started H enc F)
theorem dfull_plain (f : FuncId) (fn : Func) (hf : Tryz.pinned.checked.prog.funcNamed "abecedary/abecedarylaw14.DictFull" = some f) (hfn : Tryz.pinned.checked.prog.funcs[f]? = some fn) :
 true=Tryz.pinned.checked.prog.looks []∧∀(j:Nat) t,fn.params[j]?=some t→Tryz.pinned.checked.prog.wantsStandIn t=false:=by
 obtain rfl : f = 12 := Option.some.inj ((show Tryz.prog.funcNamed "abecedary/abecedarylaw14.DictFull" = some 12 by kernel_rfl).symm.trans hf) |>.symm;obtain rfl:fn=Tryz.f12:=(Option.some.inj (Tryz.func12.symm.trans hfn)).symm;refine⟨by kernel_rfl,fun j t ht=>?_⟩;rw[Tryz.params12]at ht;obtain rfl:t=3:=by simpa using Array.mem_of_getElem? ht
 exact(show Tryz.prog.wantsStandIn 3=false by kernel_rfl)
theorem dfull_card:Rows.DictFullCardSaid:=
 Claim7.holds_tied_plain_at .later [] _ _ _ _ dfull_said (fun _ h=>by cases h) (by kernel_rfl) (fun _ h=>by cases h) dictFull_row_tie rfl ⟨rfl,rfl⟩ (by kernel_rfl) rfl dfull_plain (by kernel_rfl)
