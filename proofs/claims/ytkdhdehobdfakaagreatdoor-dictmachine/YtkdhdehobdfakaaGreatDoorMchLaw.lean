/- PROVED: the machine of any dictionary behind any script of calls is the one of all its words (P14.3)
   Conditions: none: every input that can be -/
import Derived.Test.YtkdhdehobdfakaaGreatDoorDiMchW
import Derived.Test.YtkdhdehobdfakaaGreatDoorOpsIn
import Derived.Deep.Slices
namespace Go.Proofs.YtkdhdehobdfakaaGreatDoor
open Go.ChangeShapes Go.WideShapes Go.ChangeAt Go.RowKit
open Go.ChangeMaps (open_string shut_string)
set_option maxRecDepth 100000
theorem dmach_contract(H:Type)(enc:TypeId×Value→H)(W:World)(base:Nat)(args:Array Value)(ds gs:List (DataW H))(before:List MemPlace)
 (hval:∀(j:Nat) t v,Tryz.f3.params[j]?=some t→args[j]?=some v→Value.okWide Tryz.prog W .any base t v)
 (hW:DataW.Whole enc Tryz.prog Tryz.f3.params.toList Rows.dictMachineSpec.vars false W args.toList ds gs before) (hL:laidMetH Tryz.prog Rows.dictMachineRow.laid W):
 Calls Tryz.prog 3 args W fun e W'=>∃v,e = .returned v∧Rows.dictMachineSpec.post enc Tryz.prog Tryz.f3 false true false false W args v W':=by
 have hW':=hW;obtain⟨p,q,hA0,hV,rfl,hfz,hnd⟩:=hW;have hA:DataW.TrodAll enc Tryz.prog W 0 (fun _=>true) true Tryz.f3.params.toList args.toList ds p:=hA0;rw[Tryz.params3]at hA hval;obtain⟨v0,vs0,d0,ds0,p0,q0,hargs,rfl,rfl,h0,r0⟩:=trodAll_cons hA;obtain⟨v1,vs1,d1,ds1,p1,q1,rfl,rfl,rfl,h1,r1⟩:=trodAll_cons r0;obtain⟨rfl,rfl,rfl⟩:=trodAll_nil r1;obtain rfl:args=#[v0,v1]:=by cases args;simp_all
 obtain⟨rfl,rfl⟩:=trodVars_none hV;obtain⟨L0,hR0,hS0,hl0,hbig0⟩:=pairs_in (hval 0 22 v0 rfl rfl) h0;obtain⟨L1,hR1,hS1,hbig1⟩:=Di.ops_in (hval 1 23 v1 rfl rfl) h1;clear hA0;simp only[List.append_nil]at hW';refine(dmach_walk v0 v1 W (zMn hL) L0 hR0 hS0 hl0 L1 hR1 hS1).mono fun e W' ⟨he,hb⟩=>?_
 subst he;have harg1:=Below.trod zWo (by kernel_rfl) (of_decide_eq_true (by kernel_rfl)) h1 hb (fun x hx=>hW'.lt x (by simp[hx]));have harg0:=Below.trod zWo (by kernel_rfl) (of_decide_eq_true (by kernel_rfl)) h0 hb (fun x hx=>hW'.lt x (by simp[hx]))
 exact⟨_,rfl,_,_,_,[],_,[],hW',trodAll_cons_mk (shut_bool Tryz.underlying4 _) trodAll_mk0,
  trodAll_cons_mk harg0 (trodAll_cons_mk harg1 trodAll_mk0),rfl,hb.frame _,fun h=>by cases h⟩
theorem zTk(os:Os):laidMet Tryz.prog Rows.dictMachineRow.laid ((laidWorld os).forCall (fun _ _=>0) ⟨#[],#[.slice none 0 0,.slice none 0 0],[]⟩).memory:=
 laidMet_of_run' 8 (by kernel_rfl) (by kernel_rfl)
theorem zPk(os:Os){H:Type}(enc:TypeId×Value→H):∃places,DataW.whole enc Tryz.prog ((laidWorld os).forCall (fun _ _=>0) ⟨#[],#[.slice none 0 0,.slice none 0 0],[]⟩).memory Tryz.f3.params.toList Rows.dictMachineSpec.vars false #[Value.slice none 0 0,Value.slice none 0 0].toList 8=some ([.nil,.nil],[],places):=
 ⟨[],by kernel_rfl⟩
theorem zNv(os:Os)(started:os.Started)(H:Type)(enc:TypeId×Value→H)(F:Stop.Interp):
 ReturnsInHanded {} Tryz.checked os 3 .any ((OpenSpec.ofChange Rows.dictMachineSpec).preRow enc Tryz.prog Tryz.f3 Rows.dictMachineRow.domain false Rows.dictMachineRow.laid) (((OpenSpec.ofChange Rows.dictMachineSpec).at F).post enc Tryz.prog Tryz.f3 false true false false):=by
 obtain⟨places,hx⟩:=zPk os enc
 refine returnsInHanded_of_row (C:=Tryz.checked) (s:=OpenSpec.ofChange Rows.dictMachineSpec) own started (by kernel_rfl) Tryz.func3
  (witness_row_at (enc:=enc) (C:=Tryz.checked) false (laidWorld os) #[.slice none 0 0,.slice none 0 0] rfl (by kernel_rfl) (by kernel_rfl) (by kernel_rfl)
   (OpenSpec.preRow_of_cond 8 hx (by kernel_rfl) (fun k hk=>by cases hk) (by kernel_rfl) (zTk os))) ?_
 intro W base args ds gs before hval hW _ _ _ hL _ _;exact dmach_contract H enc W base args ds gs before hval hW hL
theorem zTj:Rows.DictMachineSaid:=
 OpenClaim.holds_of_cond 3 Tryz.f3 rfl rfl rfl rfl rfl rfl rfl ⟨rfl,rfl,rfl,rfl,rfl⟩ rfl rfl rfl rfl rfl (by kernel_rfl) Tryz.func3 (by kernel_rfl)
  (of_decide_eq_true (by kernel_rfl)) (by unfold Func.isWrapper;first|(rw[if_pos (by decide +kernel)];kernel_rfl)|(rw[if_neg (by decide +kernel)];exact⟨rfl,rfl⟩))
  (fun os started H enc _ F=>by rw[OpenClaim.pre_eq_preRow];exact zNv os started H enc F)
theorem zPl (f : FuncId) (fn : Func) (hf : Tryz.pinned.checked.prog.funcNamed "abecedary/abecedarylaw14.DictMachine" = some f) (hfn : Tryz.pinned.checked.prog.funcs[f]? = some fn) :
 true=Tryz.pinned.checked.prog.looks []∧∀(j:Nat) t,fn.params[j]?=some t→Tryz.pinned.checked.prog.wantsStandIn t=false:=by
 obtain rfl : f = 3 := Option.some.inj ((show Tryz.prog.funcNamed "abecedary/abecedarylaw14.DictMachine" = some 3 by kernel_rfl).symm.trans hf) |>.symm;obtain rfl:fn=Tryz.f3:=(Option.some.inj (Tryz.func3.symm.trans hfn)).symm;refine⟨by kernel_rfl,fun j t ht=>?_⟩;rw[Tryz.params3]at ht;have hm:=Array.mem_of_getElem? ht;simp only[List.mem_toArray,List.mem_cons,List.not_mem_nil,or_false]at hm;rcases hm with rfl|rfl
 · exact(show Tryz.prog.wantsStandIn 22=false by kernel_rfl)
 · exact(show Tryz.prog.wantsStandIn 23=false by kernel_rfl)
theorem dmach_card:Rows.DictMachineCardSaid:=
 Claim7.holds_tied_plain_at .later [] _ _ _ _ zTj (fun _ h=>by cases h) (by kernel_rfl) (fun _ h=>by cases h) dictMachine_row_tie rfl ⟨rfl,rfl⟩ (by kernel_rfl) rfl zPl (by kernel_rfl)
