import Derived.Test.YthecngkdmnadoaaGreatG23
import Derived.Test.YthecngkdmnadoaaGreatG52
import Derived.Test.YthecngkdmnadoaaGreatIntsIn
namespace Go.Proofs.YthecngkdmnadoaaGreat
open Go.ChangeShapes Go.WideShapes Go.ChangeAt Go.RowKit
set_option maxRecDepth 100000
theorem synced5_bulk{H:Type}(l:List (DataW H)):l.length≤Rows.uptoBulkAll l:=by
 induction l with
 |nil=>exact Nat.le_refl _
 |cons d r ih=>
  have h1:1≤Rows.uptoBulk d:=by
   cases d with
   |lit l=>cases l<;>simp[Rows.uptoBulk]
   |_=>simp[Rows.uptoBulk]
  simp only[Rows.uptoBulkAll,List.length_cons];omega
theorem synced5_big{H:Type}(d:DataW H):big d≤Rows.uptoBulk d:=by
 cases d with
 |slice el sp=>have h1:=synced5_bulk el;have h2:=synced5_bulk sp;simp only[big,Rows.uptoBulk];omega
 |_=>simp[big]
theorem synced5_contract(H:Type)(enc:TypeId×Value→H)(W:World)(base:Nat)(args:Array Value)(ds gs:List (DataW H))(before:List MemPlace)
 (hval:∀(j:Nat) t v,Tryz.f5.params[j]?=some t→args[j]?=some v→Value.okWide Tryz.prog W .any base t v)
 (hW:DataW.Whole enc Tryz.prog Tryz.f5.params.toList Rows.walSyncedSpec.vars false W args.toList ds gs before) (hk:Rows.uptoSmall H (ds++gs)=true) (hsz:(DataW.weightsEach Tryz.prog (Tryz.f5.params.toList++[]) (ds++gs)).all (·≤reachBytes)=true):
 Calls Tryz.prog 5 args W fun e W'=>∃v,e = .returned v∧Rows.walSyncedSpec.post enc Tryz.prog Tryz.f5 false true false false W args v W':=by
 have hW':=hW;obtain⟨p,q,hA0,hV,rfl,hfz,hnd⟩:=hW;have hA:DataW.TrodAll enc Tryz.prog W 0 (fun _=>true) true Tryz.f5.params.toList args.toList ds p:=hA0;rw[Tryz.params5]at hA hval hsz;obtain⟨v0,vs0,d0,ds0,p0,q0,hargs,rfl,rfl,h0,r0⟩:=trodAll_cons hA;obtain⟨v1,vs1,d1,ds1,p1,q1,rfl,rfl,rfl,h1,r1⟩:=trodAll_cons r0;obtain⟨rfl,rfl,rfl⟩:=trodAll_nil r1;obtain rfl:args=#[v0,v1]:=by cases args;simp_all
 obtain⟨rfl,rfl⟩:=trodVars_none hV;obtain⟨L0,hS0,hbig0,hxl0⟩:=ops5_in (hval 0 23 v0 rfl rfl) h0;obtain⟨L1,hS1,hbig1⟩:=ints_in4 (hval 1 47 v1 rfl rfl) h1;clear hA0;simp only[List.append_nil]at hW' hk;have hbk:Rows.uptoBulkAll _≤1048576:=of_decide_eq_true hk;simp only[Rows.uptoBulkAll]at hbk;have hbg1:=synced5_big d1;refine(synced5_walk v0 v1 W L0 hS0 L1 hS1 (by omega) (fun o ho=>by have:=hxl0 o ho;omega)).mono fun e W' ⟨he,hb⟩=>?_
 subst he;have harg1:=Below.trod laidOut (by kernel_rfl) (of_decide_eq_true (by kernel_rfl)) h1 hb (fun x hx=>hW'.lt x (by simp[hx]));have harg0:=Below.trod laidOut (by kernel_rfl) (of_decide_eq_true (by kernel_rfl)) h0 hb (fun x hx=>hW'.lt x (by simp[hx]))
 exact⟨_,rfl,_,_,_,[],_,[],hW',trodAll_cons_mk (shut_bool Tryz.underlying4 _) trodAll_mk0,
  trodAll_cons_mk harg0 (trodAll_cons_mk harg1 trodAll_mk0),rfl,hb.frame _,fun h=>by cases h⟩
theorem synced5_laid(os:Os):laidMet Tryz.prog Rows.walSyncedUptoRow.laid ((laidWorld os).forCall (fun _ _=>0) ⟨#[],#[.slice none 0 0,.slice none 0 0],[]⟩).memory:=
 laidMet_of_run' 8 (by kernel_rfl) (by kernel_rfl)
theorem synced5_reads(os:Os){H:Type}(enc:TypeId×Value→H):∃places,DataW.whole enc Tryz.prog ((laidWorld os).forCall (fun _ _=>0) ⟨#[],#[.slice none 0 0,.slice none 0 0],[]⟩).memory Tryz.f5.params.toList Rows.walSyncedSpec.vars false #[Value.slice none 0 0,Value.slice none 0 0].toList 8=some ([.nil,.nil],[],places):=
 ⟨[],by kernel_rfl⟩
theorem synced5_lifted(os:Os)(started:os.Started)(H:Type)(enc:TypeId×Value→H)(F:Stop.Interp):
 ReturnsInHanded {} Tryz.checked os 5 .any ((Rows.OpenSpec.upto Rows.walSyncedSpec).preRow enc Tryz.prog Tryz.f5 Rows.walSyncedUptoRow.domain false Rows.walSyncedUptoRow.laid) (((Rows.OpenSpec.upto Rows.walSyncedSpec).at F).post enc Tryz.prog Tryz.f5 false true false false):=by
 obtain⟨places,hx⟩:=synced5_reads os enc
 refine returnsInHanded_of_row (C:=Tryz.checked) (s:=Rows.OpenSpec.upto Rows.walSyncedSpec) own started (by kernel_rfl) Tryz.func5
  (witness_row_at (enc:=enc) (C:=Tryz.checked) false (laidWorld os) #[.slice none 0 0,.slice none 0 0] rfl (by kernel_rfl) (by kernel_rfl) (by kernel_rfl)
   (OpenSpec.preRow_of_cond 8 hx (by kernel_rfl) (fun k hk=>by cases hk;kernel_rfl) (by kernel_rfl) (synced5_laid os))) ?_
 intro W base args ds gs before hval hW _ hcond hsz _ _ _;exact synced5_contract H enc W base args ds gs before hval hW (hcond _ rfl) hsz
theorem synced5_said:Rows.WalSyncedUptoSaid:=
 OpenClaim.holds_of_cond 5 Tryz.f5 rfl rfl rfl rfl rfl rfl rfl ⟨rfl,rfl,rfl,rfl,rfl⟩ rfl rfl rfl rfl rfl (by kernel_rfl) Tryz.func5 (by kernel_rfl)
  (of_decide_eq_true (by kernel_rfl)) (by unfold Func.isWrapper;first|(rw[if_pos (by decide +kernel)];kernel_rfl)|(rw[if_neg (by decide +kernel)];exact⟨rfl,rfl⟩))
  (fun os started H enc _ F=>by rw[OpenClaim.pre_eq_preRow];exact synced5_lifted os started H enc F)
end Go.Proofs.YthecngkdmnadoaaGreat
