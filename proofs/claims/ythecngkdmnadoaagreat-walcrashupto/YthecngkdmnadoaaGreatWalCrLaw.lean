import Derived.Test.YthecngkdmnadoaaGreatG23
import Derived.Test.YthecngkdmnadoaaGreatG60
import Derived.Test.YthecngkdmnadoaaGreatIntsIn
namespace Go.Proofs.YthecngkdmnadoaaGreat
open Go.ChangeShapes Go.WideShapes Go.ChangeAt Go.RowKit
set_option maxRecDepth 100000
theorem crash5_bulk{H:Type}(l:List (DataW H)):l.length≤Rows.uptoBulkAll l:=by
 induction l with
 |nil=>exact Nat.le_refl _
 |cons d r ih=>
  have h1:1≤Rows.uptoBulk d:=by
   cases d with
   |lit l=>cases l<;>simp[Rows.uptoBulk]
   |_=>simp[Rows.uptoBulk]
  simp only[Rows.uptoBulkAll,List.length_cons];omega
theorem crash5_big{H:Type}(d:DataW H):big d≤Rows.uptoBulk d:=by
 cases d with
 |slice el sp=>have h1:=crash5_bulk el;have h2:=crash5_bulk sp;simp only[big,Rows.uptoBulk];omega
 |_=>simp[big]
theorem crash5_contract(H:Type)(enc:TypeId×Value→H)(W:World)(base:Nat)(args:Array Value)(ds gs:List (DataW H))(before:List MemPlace)
 (hval:∀(j:Nat) t v,Tryz.f4.params[j]?=some t→args[j]?=some v→Value.okWide Tryz.prog W .any base t v)
 (hW:DataW.Whole enc Tryz.prog Tryz.f4.params.toList Rows.walCrashSpec.vars false W args.toList ds gs before) (hk:Rows.uptoSmall H (ds++gs)=true) (hsz:(DataW.weightsEach Tryz.prog (Tryz.f4.params.toList++[]) (ds++gs)).all (·≤reachBytes)=true):
 Calls Tryz.prog 4 args W fun e W'=>∃v,e = .returned v∧Rows.walCrashSpec.post enc Tryz.prog Tryz.f4 false true false false W args v W':=by
 have hW':=hW;obtain⟨p,q,hA0,hV,rfl,hfz,hnd⟩:=hW;have hA:DataW.TrodAll enc Tryz.prog W 0 (fun _=>true) true Tryz.f4.params.toList args.toList ds p:=hA0;rw[Tryz.params4]at hA hval hsz;obtain⟨v0,vs0,d0,ds0,p0,q0,hargs,rfl,rfl,h0,r0⟩:=trodAll_cons hA;obtain⟨v1,vs1,d1,ds1,p1,q1,rfl,rfl,rfl,h1,r1⟩:=trodAll_cons r0;obtain⟨v2,vs2,d2,ds2,p2,q2,rfl,rfl,rfl,h2,r2⟩:=trodAll_cons r1;obtain⟨rfl,rfl,rfl⟩:=trodAll_nil r2;obtain rfl:args=#[v0,v1,v2]:=by cases args;simp_all
 obtain⟨rfl,rfl⟩:=trodVars_none hV;obtain⟨L0,hS0,hbig0,hxl0⟩:=opss_in (hval 0 46 v0 rfl rfl) h0;obtain⟨a1,rfl,rfl,rfl,w1⟩:=open_int Tryz.underlying3 (hval 1 3 v1 rfl rfl) h1;have b1:=bounds_i64 w1;obtain⟨L2,hS2,hbig2⟩:=ints_in4 (hval 2 47 v2 rfl rfl) h2;clear hA0;simp only[List.append_nil]at hW' hk;have hbk:Rows.uptoBulkAll _≤1048576:=of_decide_eq_true hk;simp only[Rows.uptoBulkAll]at hbk;have hbg2:=crash5_big d2;refine(crash5_walk v0 a1 v2 W L0 hS0 (by omega) (by omega) L2 hS2 (by omega) (fun L hL o ho=>by have:=hxl0 L hL o ho;omega)).mono fun e W' ⟨he,hb⟩=>?_
 subst he;have harg2:=Below.trod laidOut (by kernel_rfl) (of_decide_eq_true (by kernel_rfl)) h2 hb (fun x hx=>hW'.lt x (by simp[hx]));have harg0:=Below.trod laidOut (by kernel_rfl) (of_decide_eq_true (by kernel_rfl)) h0 hb (fun x hx=>hW'.lt x (by simp[hx]))
 exact⟨_,rfl,_,_,_,[],_,[],hW',trodAll_cons_mk (shut_bool Tryz.underlying4 _) trodAll_mk0,
  trodAll_cons_mk harg0 (trodAll_cons_mk (shut_int Tryz.underlying3 w1) (trodAll_cons_mk harg2 trodAll_mk0)),rfl,hb.frame _,fun h=>by cases h⟩
theorem crash5_laid(os:Os):laidMet Tryz.prog Rows.walCrashUptoRow.laid ((laidWorld os).forCall (fun _ _=>0) ⟨#[],#[.slice none 0 0,.int .i64 0,.slice none 0 0],[]⟩).memory:=
 laidMet_of_run' 8 (by kernel_rfl) (by kernel_rfl)
theorem crash5_reads(os:Os){H:Type}(enc:TypeId×Value→H):∃places,DataW.whole enc Tryz.prog ((laidWorld os).forCall (fun _ _=>0) ⟨#[],#[.slice none 0 0,.int .i64 0,.slice none 0 0],[]⟩).memory Tryz.f4.params.toList Rows.walCrashSpec.vars false #[Value.slice none 0 0,Value.int .i64 0,Value.slice none 0 0].toList 8=some ([.nil,.lit (.int .i64 0),.nil],[],places):=
 ⟨[],by kernel_rfl⟩
theorem crash5_lifted(os:Os)(started:os.Started)(H:Type)(enc:TypeId×Value→H)(F:Stop.Interp):
 ReturnsInHanded {} Tryz.checked os 4 .any ((Rows.OpenSpec.upto Rows.walCrashSpec).preRow enc Tryz.prog Tryz.f4 Rows.walCrashUptoRow.domain false Rows.walCrashUptoRow.laid) (((Rows.OpenSpec.upto Rows.walCrashSpec).at F).post enc Tryz.prog Tryz.f4 false true false false):=by
 obtain⟨places,hx⟩:=crash5_reads os enc
 refine returnsInHanded_of_row (C:=Tryz.checked) (s:=Rows.OpenSpec.upto Rows.walCrashSpec) own started (by kernel_rfl) Tryz.func4
  (witness_row_at (enc:=enc) (C:=Tryz.checked) false (laidWorld os) #[.slice none 0 0,.int .i64 0,.slice none 0 0] rfl (by kernel_rfl) (by kernel_rfl) (by kernel_rfl)
   (OpenSpec.preRow_of_cond 8 hx (by kernel_rfl) (fun k hk=>by cases hk;kernel_rfl) (by kernel_rfl) (crash5_laid os))) ?_
 intro W base args ds gs before hval hW _ hcond hsz _ _ _;exact crash5_contract H enc W base args ds gs before hval hW (hcond _ rfl) hsz
theorem crash5_said:Rows.WalCrashUptoSaid:=
 OpenClaim.holds_of_cond 4 Tryz.f4 rfl rfl rfl rfl rfl rfl rfl ⟨rfl,rfl,rfl,rfl,rfl⟩ rfl rfl rfl rfl rfl (by kernel_rfl) Tryz.func4 (by kernel_rfl)
  (of_decide_eq_true (by kernel_rfl)) (by unfold Func.isWrapper;first|(rw[if_pos (by decide +kernel)];kernel_rfl)|(rw[if_neg (by decide +kernel)];exact⟨rfl,rfl⟩))
  (fun os started H enc _ F=>by rw[OpenClaim.pre_eq_preRow];exact crash5_lifted os started H enc F)
end Go.Proofs.YthecngkdmnadoaaGreat
