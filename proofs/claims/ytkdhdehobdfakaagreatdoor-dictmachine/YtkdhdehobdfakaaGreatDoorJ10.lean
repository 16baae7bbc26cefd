import Derived.Test.YtkdhdehobdfakaaGreatDoorJ8
import Derived.DeepKeys4
import Derived.Maps.Keyed
import Derived.Test.YtkdhdehobdfakaaGreatDoorJ9
set_option maxRecDepth 100000
set_option maxHeartbeats 8000000
namespace Go.Proofs.YtkdhdehobdfakaaGreatDoor
section
open Go.RowKit Nums Fm Go.Maps Go.MapKept
theorem zRi:laidOutB Tryz.prog=true:=by kernel_rfl
theorem zWq:Keyed Tryz.prog 191:=Keyed.of_law (deep_law_laid zRi (m:=3) (by omega) (of_decide_eq_true (by kernel_rfl)) (by kernel_rfl) (by kernel_rfl))
theorem zWp:Keyed Tryz.prog 233:=Keyed.of_law (deep_law_laid zRi (m:=4) (by omega) (of_decide_eq_true (by kernel_rfl)) (by kernel_rfl) (by kernel_rfl))
abbrev SK:=Bool×Int×Nat
abbrev LK:=Nat×Arc
def valK(x:SK):Value := .agg #[.bool x.1,.int .i64 x.2.1,.int .i64 x.2.2]
def valL(x:LK):Value := .agg #[.int .i64 x.1,.int .i32 x.2.label,.int .i64 x.2.out,.int .i64 x.2.to]
def zB1(n:Int):Prop := -9223372036854775808≤n∧n≤9223372036854775807
def zIy(n:Int):Prop := -2147483648≤n∧n≤2147483647
theorem wf64{n:Int}(h:zB1 n):(Lit.int .i64 n).wf=true:=by
 obtain⟨h1,h2⟩:=h;simp[Lit.wf,IntKind.min,IntKind.max,IntKind.bits,IntKind.signed];omega
theorem wf32{n:Int}(h:zIy n):(Lit.int .i32 n).wf=true:=by
 obtain⟨h1,h2⟩:=h;simp[Lit.wf,IntKind.min,IntKind.max,IntKind.bits,IntKind.signed];omega
theorem typesF:Tryz.prog.types.size+1=4+(Tryz.prog.types.size-3):=by
 have:3≤Tryz.prog.types.size:=of_decide_eq_true (by kernel_rfl);omega
theorem keyTypeK:Tryz.prog.keyType 191=true:=by kernel_rfl
theorem keyTypeL:Tryz.prog.keyType 233=true:=by kernel_rfl
theorem cellsK:Tryz.prog.cellsOf 191=3:=by kernel_rfl
theorem cellsL:Tryz.prog.cellsOf 233=4:=by kernel_rfl
theorem cellsArc:Tryz.prog.cellsOf 89=3:=by kernel_rfl
theorem zLw:Tryz.prog.cellsOf 3=1:=by kernel_rfl
theorem zYc:Tryz.prog.cellsOf 4=1:=by kernel_rfl
theorem zX7:Tryz.prog.cellsOf 21=1:=by kernel_rfl
theorem zFy(d:Nat){n:Int}(h:(Lit.int .i64 n).wf=true):Tryz.prog.keyLits (d+1) 3 [.int .i64 n]=some [.int .i64 n]:=by
 unfold Program.keyLits;rw[Tryz.underlying3];exact if_pos ⟨rfl,h⟩
theorem zWb(d:Nat){n:Int}(h:(Lit.int .i32 n).wf=true):Tryz.prog.keyLits (d+1) 21 [.int .i32 n]=some [.int .i32 n]:=by
 unfold Program.keyLits;rw[Tryz.underlying21];exact if_pos ⟨rfl,h⟩
theorem zWc(d:Nat)(b:Bool):Tryz.prog.keyLits (d+1) 4 [.bool b]=some [.bool b]:=by
 unfold Program.keyLits;rw[Tryz.underlying4]
theorem lits_A(d:Nat){a b c:Int}(h1:(Lit.int .i32 a).wf=true)(h2:(Lit.int .i64 b).wf=true)(h3:(Lit.int .i64 c).wf=true):Tryz.prog.keyLits (d+2) 89 [.int .i32 a,.int .i64 b,.int .i64 c]=some [.int .i32 a,.int .i64 b,.int .i64 c]:=by
 unfold Program.keyLits;rw[Tryz.underlying89];refine(if_pos ⟨cellsArc.symm,by simp⟩).trans ?_;simp only[List.mapM_cons,List.mapM_nil,zX7,zLw,List.drop_zero,List.drop_succ_cons,List.take_succ_cons,List.take_zero,zWb d h1,zFy d h2,zFy d h3];rfl
theorem key_K(x:SK)(h1:zB1 x.2.1)(h2:zB1 x.2.2):∃l,keyOf Tryz.prog 191 (valK x)=some l:=by
 have e1:=wf64 h1;have e2:=wf64 h2;obtain⟨d,hd⟩:∃d,Tryz.prog.types.size+1=d+4:=⟨Tryz.prog.types.size-3,by have:=typesF;omega⟩;have hl:Tryz.prog.keyLits (d+4) 191 [.bool x.1,.int .i64 x.2.1,.int .i64 x.2.2]=some [.bool x.1,.int .i64 x.2.1,.int .i64 x.2.2]:=by
  unfold Program.keyLits;rw[Tryz.underlying191];refine(if_pos ⟨cellsK.symm,by simp⟩).trans ?_;simp only[List.mapM_cons,List.mapM_nil,zYc,zLw,List.drop_zero,List.drop_succ_cons,List.take_succ_cons,List.take_zero,zWc (d+2),zFy (d+2) e1,zFy (d+2) e2];rfl
 have hf:(valK x).formed Tryz.prog 191=true:=by
  unfold valK Value.formed;simp only[Tryz.underlying191,cellsK];rfl
 unfold keyOf;rw[Tryz.underlying191];simp only[keyTypeK,hf,Bool.and_self,if_true];rw[hd,show(valK x).cells.toList=[.bool x.1,.int .i64 x.2.1,.int .i64 x.2.2]from rfl,hl];exact⟨_,rfl⟩
theorem key_L(x:LK)(h0:zB1 x.1)(h1:zIy x.2.label)(h2:zB1 x.2.out)(h3:zB1 x.2.to):∃l,keyOf Tryz.prog 233 (valL x)=some l:=by
 have e0:=wf64 h0;have e1:=wf32 h1;have e2:=wf64 h2;have e3:=wf64 h3;obtain⟨d,hd⟩:∃d,Tryz.prog.types.size+1=d+4:=⟨Tryz.prog.types.size-3,by have:=typesF;omega⟩;have hl:Tryz.prog.keyLits (d+4) 233 [.int .i64 x.1,.int .i32 x.2.label,.int .i64 x.2.out,.int .i64 x.2.to]=some [.int .i64 x.1,.int .i32 x.2.label,.int .i64 x.2.out,.int .i64 x.2.to]:=by
  unfold Program.keyLits;rw[Tryz.underlying233];refine(if_pos ⟨cellsL.symm,by simp⟩).trans ?_;simp only[List.mapM_cons,List.mapM_nil,cellsArc,zLw,List.drop_zero,List.drop_succ_cons,List.take_succ_cons,List.take_zero,zFy (d+2) e0,lits_A (d+1) e1 e2 e3];rfl
 have hf:(valL x).formed Tryz.prog 233=true:=by
  unfold valL Value.formed;simp only[Tryz.underlying233,cellsL];rfl
 unfold keyOf;rw[Tryz.underlying233];simp only[keyTypeL,hf,Bool.and_self,if_true];rw[hd,show(valL x).cells.toList=[.int .i64 x.1,.int .i32 x.2.label,.int .i64 x.2.out,.int .i64 x.2.to]from rfl,hl];exact⟨_,rfl⟩
def KMapAt{κ:Type}(kt:TypeId)(K:κ→Value)(w:World)(b:Nat)(m:List (κ×Nat)):Prop:=
 ∃es clock,w.heap[b]?=some (.map es clock)∧es.toList.map (fun e=>(e.key,e.val))=m.map (fun p=>(K p.1,Value.int .i64 p.2))∧∀p∈m,∃l,keyOf Tryz.prog kt (K p.1)=some l
section
variable {κ:Type} {kt t et:TypeId} {K:κ→Value} {w w':World} {b:Nat} {m:List (κ×Nat)}
theorem KMapAt.same(h:KMapAt kt K w b m)(e:w'.heap[b]?=w.heap[b]?):KMapAt kt K w' b m:=by
 obtain⟨es,clock,hb,r⟩:=h;exact⟨es,clock,e.trans hb,r⟩
theorem KMapAt.lt(h:KMapAt kt K w b m):b<w.heap.size:=by
 obtain⟨es,clock,hb,_⟩:=h;exact(Array.getElem?_eq_some_iff.1 hb).1
theorem KMapAt.obj(h:KMapAt kt K w b m):∃es clock,w.heap[b]?=some (.map es clock):=by
 obtain⟨es,clock,hb,_⟩:=h;exact⟨es,clock,hb⟩
theorem KMapAt.entry{es:Array MapEntry}(h:es.toList.map (fun e=>(e.key,e.val))=m.map (fun p=>(K p.1,Value.int .i64 p.2))){j:Nat}{e:MapEntry}(he:es.toList[j]?=some e):∃p,m[j]?=some p∧e.key=K p.1∧e.val = .int .i64 p.2:=by
 have h2:=congrArg (·[j]?) h;simp only[List.getElem?_map,he,Option.map_some]at h2;cases hm:m[j]? with
 |none=>rw[hm]at h2;simp at h2
 |some p=>
  rw[hm]at h2;simp only[Option.map_some,Option.some.injEq,Prod.mk.injEq]at h2;exact⟨p,rfl,h2.1,h2.2⟩
theorem KMapAt.keyed{es:Array MapEntry}(h:es.toList.map (fun e=>(e.key,e.val))=m.map (fun p=>(K p.1,Value.int .i64 p.2)))(hk:∀p∈m,∃l,keyOf Tryz.prog kt (K p.1)=some l):∀e∈es.toList,∃l,keyOf Tryz.prog kt e.key=some l:=by
 intro e he;obtain⟨j,hj⟩:=List.mem_iff_getElem?.1 he;obtain⟨p,hp,h1,_⟩:=KMapAt.entry h hj;rw[h1];exact hk p (List.mem_of_getElem? hp)
theorem KMapAt.look(h:KMapAt kt K w b m)(hK:Keyed Tryz.prog kt)(ht:Tryz.prog.underlying t=some (.map kt 3)){x:κ}{l:Lit}(hx:keyOf Tryz.prog kt (K x)=some l)(hinj:∀y,K y=K x→y=x):
 ((∀n,(x,n)∉m)∧(Instr.lookup t (.map (some b)) (K x) true).run Tryz.prog w = .ok (.tuple #[.int .i64 0,.bool false]) w) ∨
 ∃n,(x,n)∈m∧(Instr.lookup t (.map (some b)) (K x) true).run Tryz.prog w = .ok (.tuple #[.int .i64 n,.bool true]) w:=by
 obtain⟨es,clock,hb,hm,hk⟩:=h;have hz:(zeroValue 3).run Tryz.prog w = .ok (.int .i64 0) w:=by kernel_rfl
 rcases hK.find w hx es.toList (KMapAt.keyed hm hk)with⟨h1,h2⟩|⟨j,e,h1,h2,h3⟩
 · refine .inl ⟨fun n hn=>?_,?_⟩
   · obtain⟨j,hj⟩:=List.mem_iff_getElem?.1 hn
     have h4:=congrArg (·[j]?) hm;simp only[List.getElem?_map,hj,Option.map_some]at h4;cases he:es.toList[j]? with
     |none=>rw[he]at h4;simp at h4
     |some e=>
      rw[he]at h4;simp only[Option.map_some,Option.some.injEq,Prod.mk.injEq]at h4;exact h2 e (List.mem_of_getElem? he) h4.1
   · simp[Instr.lookup,run_underlying ht,MapKept.run_getObj_map hb,hK.check w _ hx,h1,hz,Result.andThen]
 · obtain⟨p,hp,h4,h5⟩:=KMapAt.entry hm h2
   have hpx:p.1=x:=hinj _ (h4.symm.trans h3);refine .inr ⟨p.2,?_,?_⟩
   · rw[←hpx];exact List.mem_of_getElem? hp
   · simp[Instr.lookup,run_underlying ht,MapKept.run_getObj_map hb,hK.check w _ hx,h1,h5,Result.andThen]
theorem KMapAt.look_new(h:KMapAt kt K w b m)(hK:Keyed Tryz.prog kt)(ht:Tryz.prog.underlying t=some (.map kt 3)){x:κ}{l:Lit}(hx:keyOf Tryz.prog kt (K x)=some l)(hinj:∀y,K y=K x→y=x)(hn:∀n,(x,n)∉m):
 (Instr.lookup t (.map (some b)) (K x) true).run Tryz.prog w = .ok (.tuple #[.int .i64 0,.bool false]) w:=by
 rcases h.look hK ht hx hinj with⟨_,h1⟩|⟨n,h1,_⟩
 · exact h1
 · exact absurd h1 (hn n)
theorem KMapAt.look_old(h:KMapAt kt K w b m)(hK:Keyed Tryz.prog kt)(ht:Tryz.prog.underlying t=some (.map kt 3)){x:κ}{l:Lit}(hx:keyOf Tryz.prog kt (K x)=some l)(hinj:∀y,K y=K x→y=x){n:Nat}(hn:(x,n)∈m)(hu:∀n',(x,n')∈m→n'=n):
 (Instr.lookup t (.map (some b)) (K x) true).run Tryz.prog w = .ok (.tuple #[.int .i64 n,.bool true]) w:=by
 rcases h.look hK ht hx hinj with⟨h1,_⟩|⟨n',h1,h2⟩
 · exact absurd hn (h1 n)
 · rw[hu n' h1]at h2;exact h2
theorem KMapAt.store(h:KMapAt kt K w b m)(hK:Keyed Tryz.prog kt)(ht:Tryz.prog.underlying t=some (.map kt 3)){x:κ}{l:Lit}(hx:keyOf Tryz.prog kt (K x)=some l)(hinj:∀y,K y=K x→y=x)(hnew:∀n,(x,n)∉m)(n:Nat):
 ∃w',(Instr.mapUpdate t (.map (some b)) (K x) (.int .i64 n)).run Tryz.prog w = .ok () w'∧KMapAt kt K w' b (m++[(x,n)])∧w'.os=w.os∧w'.tape=w.tape∧w'.output=w.output∧w'.heap.size=w.heap.size∧∀k,k≠b→w'.heap[k]?=w.heap[k]?:=by
 obtain⟨es,clock,hb,hm,hk⟩:=h;rcases hK.find w hx es.toList (KMapAt.keyed hm hk)with⟨h1,h2⟩|⟨j,e,h1,h2,h3⟩
 · refine⟨{ w with heap:=w.heap.setIfInBounds b (.map (es.push ⟨K x,.int .i64 n,clock⟩) (clock+1)) },?_,⟨es.push ⟨K x,.int .i64 n,clock⟩,clock+1,(heap_set hb).1,by simp[hm],fun p hp=>?_⟩,rfl,rfl,rfl,by simp,fun i hi=>(heap_set hb).2 i hi⟩
   · simp[Instr.mapUpdate,run_underlying ht,MapKept.run_getObj_map hb,hK.check w _ hx,h1,MapKept.run_setObj_map _ hb,Result.andThen]
   · rcases List.mem_append.1 hp with hp|hp
     · exact hk p hp
     · rw[List.mem_singleton.1 hp];exact⟨l,hx⟩
 · obtain⟨p,hp,h4,h5⟩:=KMapAt.entry hm h2
   have hpx:p.1=x:=hinj _ (h4.symm.trans h3);exact absurd (show(x,p.2)∈m by rw[←hpx];exact List.mem_of_getElem? hp) (hnew p.2)
theorem KMapAt.len(h:KMapAt kt K w b m)(ht:Tryz.prog.underlying t=some (.map kt 3))(ty:TypeId):(Builtin.len_ #[t] ty #[.map (some b)]).run Tryz.prog w = .ok (.int .i64 (m.length:Int)) w:=by
 obtain⟨es,clock,hb,hm,_⟩:=h;have hl:es.size=m.length:=by simpa using congrArg List.length hm
 simp[Builtin.len_,run_underlying ht,MapKept.run_getObj_map hb,Result.andThen,goInt,hl]
end
theorem zKj{x y:SK}(h:valK y=valK x):y=x:=by
 obtain⟨a,b,c⟩:=x;obtain⟨a',b',c'⟩:=y;simp[valK]at h;obtain⟨h1,h2,h3⟩:=h;subst h1;subst h2;rw[Int.ofNat_inj.1 h3]
theorem zKi{x y:LK}(h:valL y=valL x):y=x:=by
 obtain⟨a,b,c,d⟩:=x;obtain⟨a',b',c',d'⟩:=y;simp[valL]at h;obtain⟨h1,h2,h3,h4⟩:=h;subst h2;subst h3;rw[Int.ofNat_inj.1 h1,Int.ofNat_inj.1 h4]
end
section
open Go.RowKit Nums Fm
def zCv(a:Arc):List Value:=[.int .i32 a.label,.int .i64 a.out,.int .i64 a.to]
theorem zNz(a:Arc):zG1 3 (zCv a):=⟨rfl,by simp[zCv,Value.oneCell']⟩
def zYy(a:Arc):Prop:=zIy a.label∧zB1 a.out∧zB1 a.to
def AOwn(B:Nat)(w:World)(v:Value)(l:List Arc):Prop:=GOwn 89 3 B w v (l.map zCv)
structure LInv(m:List (LK×Nat))(D:List (List Arc)):Prop where
 zero:D[0]?=some []
 len:D.length=m.length+1
 row:∀(i:Nat) (x:LK) (n:Nat),m[i]?=some (x,n)→n=i+1∧∃p,D[x.1]?=some p∧D[n]?=some (p++[x.2])
 nd:D.Nodup
theorem zHf{α:Type}{l:List α}(h:l.Nodup){i j:Nat}{x:α}(hi:l[i]?=some x)(hj:l[j]?=some x):i=j:=by
 obtain⟨h1,e1⟩:=List.getElem?_eq_some_iff.1 hi;obtain⟨h2,e2⟩:=List.getElem?_eq_some_iff.1 hj;have hp:=List.pairwise_iff_getElem.1 h;rcases Nat.lt_trichotomy i j with h3|h3|h3
 · exact absurd (e1.trans e2.symm) (hp i j h1 h2 h3)
 · exact h3
 · exact absurd (e2.trans e1.symm) (hp j i h2 h1 h3)
theorem zJs{α:Type}{l:List α}{x:α}(h:l.Nodup)(hx:x∉l):(l++[x]).Nodup:=by
 rw[List.nodup_append];exact⟨h,by simp,fun a ha b hb=>by rw[List.mem_singleton.1 hb];exact fun e=>hx (e▸ha)⟩
theorem LInv.found{m:List (LK×Nat)}{D:List (List Arc)}(h:LInv m D){n k:Nat}{a:Arc}{p:List Arc}(hm:((n,a),k)∈m)(hn:D[n]?=some p):D[k]?=some (p++[a]):=by
 obtain⟨i,hi⟩:=List.mem_iff_getElem?.1 hm;obtain⟨_,p',h1,h2⟩:=h.row i _ _ hi;rw[hn]at h1;cases h1;exact h2
theorem LInv.add{m:List (LK×Nat)}{D:List (List Arc)}(h:LInv m D){n:Nat}{a:Arc}{p:List Arc}(hnew:∀k,((n,a),k)∉m)(hn:D[n]?=some p):LInv (m++[((n,a),m.length+1)]) (D++[p++[a]])∧(D++[p++[a]])[m.length+1]?=some (p++[a]):=by
 have hlen:=h.len;have hlast:(D++[p++[a]])[m.length+1]?=some (p++[a]):=by rw[List.getElem?_append_right (by omega),hlen];simp
 have hpre:∀{i:Nat} {q:List Arc},D[i]?=some q→(D++[p++[a]])[i]?=some q:=fun {i q} hi=>by
  rw[List.getElem?_append_left (List.getElem?_eq_some_iff.1 hi).1];exact hi
 refine⟨⟨hpre h.zero,by simp[hlen],fun i x k hi=>?_,zJs h.nd fun hmem=>?_⟩,hlast⟩
 · by_cases hil:i<m.length
   · rw[List.getElem?_append_left hil]at hi
     obtain⟨h1,q,h2,h3⟩:=h.row i x k hi;exact⟨h1,q,hpre h2,hpre h3⟩
   · rw[List.getElem?_append_right (by omega)]at hi
     cases hi0:i-m.length with
     |zero=>
      rw[hi0]at hi;simp only[List.getElem?_cons_zero,Option.some.injEq,Prod.mk.injEq]at hi;obtain⟨rfl,rfl⟩:=hi;exact⟨by omega,p,hpre hn,hlast⟩
     |succ j=>rw[hi0]at hi;simp at hi
 · obtain⟨i,hi⟩:=List.mem_iff_getElem?.1 hmem
   have hil:=(List.getElem?_eq_some_iff.1 hi).1;cases i with
   |zero=>
    rw[h.zero]at hi;simp at hi
   |succ j=>
    obtain⟨⟨x,k⟩,hx⟩:∃xk,m[j]?=some xk:=⟨m[j]'(by omega),List.getElem?_eq_getElem _⟩;obtain⟨rfl,q,h2,h3⟩:=h.row j x k hx;rw[hi]at h3;simp only[Option.some.injEq]at h3;have h4:=List.append_inj' h3 rfl;(have e1:x.2=a:=by have:=h4.2;simp at this;exact this.symm);rw[←h4.1]at h2;have e2:x.1=n:=zHf h.nd h2 hn;have ex:x=(n,a):=Prod.ext e2 e1;exact hnew (j+1) (ex▸List.mem_of_getElem? hx)
structure NInv(m:List (SK×Nat))(D:List (List Arc))(b:List St):Prop where
 len:m.length=b.length
 row:∀(i:Nat) (x:SK) (n:Nat),m[i]?=some (x,n)→n=i∧∃s,b[i]?=some s∧s.final=x.1∧s.out=x.2.1∧D[x.2.2]?=some s.arcs
 nd:b.Nodup
theorem NInv.more{m:List (SK×Nat)}{D D':List (List Arc)}{b:List St}(h:NInv m D b)(hp:D<+:D'):NInv m D' b:=by
 obtain⟨t,rfl⟩:=hp;refine⟨h.len,fun i x n hi=>?_,h.nd⟩;obtain⟨h1,s,h2,h3,h4,h5⟩:=h.row i x n hi;exact⟨h1,s,h2,h3,h4,by rw[List.getElem?_append_left (List.getElem?_eq_some_iff.1 h5).1];exact h5⟩
theorem NInv.found{m:List (SK×Nat)}{D:List (List Arc)}{b:List St}(h:NInv m D b){s:St}{ln k:Nat}(hm:((s.final,s.out,ln),k)∈m)(hl:D[ln]?=some s.arcs):zDg b s=(b,k)∧k<b.length:=by
 obtain⟨i,hi⟩:=List.mem_iff_getElem?.1 hm;obtain⟨rfl,s',h2,h3,h4,h5⟩:=h.row i _ _ hi;rw[hl]at h5;have e:s'=s:=by
  cases s;cases s';simp only[Option.some.injEq]at h3 h4 h5;simp only[St.mk.injEq];exact⟨h3,h4,h5.symm⟩
 subst e;have hmem:s'∈b:=List.mem_of_getElem? h2;have hidx:=List.idxOf_lt_length_of_mem hmem;have:b.idxOf s'=k:=zHf h.nd (by rw[List.getElem?_eq_getElem hidx,List.getElem_idxOf]) h2;rw[zDg,if_pos hmem,this];exact⟨rfl,(List.getElem?_eq_some_iff.1 h2).1⟩
theorem NInv.add{m:List (SK×Nat)}{D:List (List Arc)}{b:List St}(h:NInv m D b)(hD:D.Nodup){s:St}{ln:Nat}(hnew:∀k,((s.final,s.out,ln),k)∉m)(hl:D[ln]?=some s.arcs):zDg b s=(b++[s],b.length)∧NInv (m++[((s.final,s.out,ln),b.length)]) D (b++[s]):=by
 have hmem:s∉b:=fun hmem=>by
  obtain⟨i,hi⟩:=List.mem_iff_getElem?.1 hmem;have hil:=(List.getElem?_eq_some_iff.1 hi).1;have hlen:=h.len;obtain⟨⟨x,k⟩,hx⟩:∃xk,m[i]?=some xk:=⟨m[i]'(by omega),List.getElem?_eq_getElem _⟩;obtain⟨_,s',h2,h3,h4,h5⟩:=h.row i x k hx;rw[hi]at h2;cases h2;have e:=zHf hD h5 hl;have ex:x=(s.final,s.out,ln):=by rw[h3,h4,←e]
  exact hnew k (ex▸List.mem_of_getElem? hx)
 refine⟨by rw[zDg,if_neg hmem],by simp[h.len],fun i x n hi=>?_,zJs h.nd hmem⟩;by_cases hil:i<m.length
 · rw[List.getElem?_append_left hil]at hi
   obtain⟨h1,s',h2,h3⟩:=h.row i x n hi;exact⟨h1,s',by rw[List.getElem?_append_left (List.getElem?_eq_some_iff.1 h2).1];exact h2,h3⟩
 · rw[List.getElem?_append_right (by omega)]at hi
   have hlen:=h.len;cases hi0:i-m.length with
   |zero=>
    rw[hi0]at hi;simp only[List.getElem?_cons_zero,Option.some.injEq,Prod.mk.injEq]at hi;obtain⟨rfl,rfl⟩:=hi;refine⟨by omega,s,?_,rfl,rfl,hl⟩;rw[List.getElem?_append_right (by omega),show i-b.length=0 by omega];rfl
   |succ j=>rw[hi0]at hi;simp at hi
structure Upd(F:Nat→Prop)(w w':World):Prop where
 os:w'.os=w.os
 tape:w'.tape=w.tape
 output:w'.output=w.output
 size:w.heap.size≤w'.heap.size
 block:∀k,k<w.heap.size→¬F k→w'.heap[k]?=w.heap[k]?
theorem Upd.refl(F:Nat→Prop)(w:World):Upd F w w:=⟨rfl,rfl,rfl,Nat.le_refl _,fun _ _ _=>rfl⟩
theorem Upd.trans{F G:Nat→Prop}{a b c:World}(h1:Upd F a b)(h2:Upd G b c)(hG:∀k,k<a.heap.size→G k→F k):Upd F a c:=
 ⟨h2.os.trans h1.os,h2.tape.trans h1.tape,h2.output.trans h1.output,Nat.le_trans h1.size h2.size,fun k hk hF=>(h2.block k (Nat.lt_of_lt_of_le hk h1.size) (fun g=>hF (hG k hk g))).trans (h1.block k hk hF)⟩
theorem Upd.of_below{F:Nat→Prop}{w w':World}(h:Below w.heap.size w w'):Upd F w w':=⟨h.os,h.tape,h.output,h.size,fun k hk _=>h.block k hk⟩
theorem Upd.mono{F G:Nat→Prop}{w w':World}(h:Upd F w w')(hG:∀k,F k→G k):Upd G w w':=⟨h.os,h.tape,h.output,h.size,fun k hk hF=>h.block k hk (fun f=>hF (hG k f))⟩
theorem Upd.below{F:Nat→Prop}{w w':World}(h:Upd F w w'){E:Nat}(hE:E≤w.heap.size)(hF:∀k,F k→E≤k):Below E w w':=
 ⟨h.os,h.tape,h.output,h.size,fun k hk=>h.block k (Nat.lt_of_lt_of_le hk hE) (fun f=>by have:=hF k f;omega)⟩
structure BAt(A:Nat→Prop)(E:Nat)(w:World)(g g1 g2:Nat)(vs:Value)(b:List St)(m1:List (SK×Nat))(m2:List (LK×Nat))(D:List (List Arc)):Prop where
 blk:w.heap[g]?=some (.cells #[vs,.map (some g1),.map (some g2)] 96 (0,0))
 row:∃xss,GOwn 56 3 E w vs xss∧xss.length=b.length∧∀(i:Nat) (s:St),b[i]?=some s→∃va,xss[i]?=some [.bool s.final,.int .i64 s.out,va]∧AOwn E w va s.arcs∧∀k,va.ownBlock=some k→A k
 mp1:KMapAt 191 valK w g1 m1
 mp2:KMapAt 233 valL w g2 m2
 li:LInv m2 D
 ni:NInv m1 D b
 ne:g1≠g2
 lo:E≤g∧E≤g1∧E≤g2
def fpB(g g1 g2:Nat)(vs:Value)(k:Nat):Prop:=k=g∨k=g1∨k=g2∨vs.ownBlock=some k
section
variable {A:Nat→Prop} {E g g1 g2:Nat} {w w':World} {vs:Value} {b:List St} {m1:List (SK×Nat)} {m2:List (LK×Nat)} {D:List (List Arc)}
theorem AOwn.typed{B:Nat}{v:Value}{l:List Arc}(h:AOwn B w v l)(hs:∀(k:Nat) (cur:Array Value),w.heap[k]?=some (Obj.cells cur 89 (0,0))→w'.heap[k]?=w.heap[k]?):AOwn B w' v l:=
 GOwn.same h fun g hg=>by obtain⟨_,cur,h1⟩:=GOwn.block h hg;exact hs g cur h1
theorem BAt.lt(h:BAt A E w g g1 g2 vs b m1 m2 D):g<w.heap.size∧g1<w.heap.size∧g2<w.heap.size:=⟨(Array.getElem?_eq_some_iff.1 h.blk).1,h.mp1.lt,h.mp2.lt⟩
theorem BAt.fp_lo(h:BAt A E w g g1 g2 vs b m1 m2 D):∀k,fpB g g1 g2 vs k→E≤k:=by
 rintro k (rfl|rfl|rfl|hk)
 · exact h.lo.1
 · exact h.lo.2.1
 · exact h.lo.2.2
 · obtain⟨xss,ho,_⟩:=h.row
   exact(ho.block hk).1
theorem BAt.fp_lt(h:BAt A E w g g1 g2 vs b m1 m2 D):∀k,fpB g g1 g2 vs k→k<w.heap.size:=by
 rintro k (rfl|rfl|rfl|hk)
 · exact h.lt.1
 · exact h.lt.2.1
 · exact h.lt.2.2
 · obtain⟨xss,ho,_⟩:=h.row
   exact ho.lt hk
theorem BAt.below(h:BAt A E w g g1 g2 vs b m1 m2 D)(hb:Below w.heap.size w w'):BAt A E w' g g1 g2 vs b m1 m2 D:=by
 have hl:=h.lt;obtain⟨xss,ho,h1,h2⟩:=h.row;refine⟨(hb.block g hl.1).trans h.blk,⟨xss,ho.below hb,h1,fun i s hi=>?_⟩,h.mp1.same (hb.block _ hl.2.1),h.mp2.same (hb.block _ hl.2.2),h.li,h.ni,h.ne,h.lo⟩;obtain⟨va,h3,h4,h5⟩:=h2 i s hi;exact⟨va,h3,GOwn.below h4 hb,h5⟩
theorem BAt.cells(h:BAt A E w g g1 g2 vs b m1 m2 D):w.cell? ⟨g,0,none⟩=some vs∧w.cell? ⟨g,1,none⟩=some (.map (some g1))∧w.cell? ⟨g,2,none⟩=some (.map (some g2)):=by
 simp[World.cell?,h.blk]
theorem BAt.lists(h:BAt A E w g g1 g2 vs b m1 m2 D){m2':List (LK×Nat)}{D':List (List Arc)}(hs:∀k,k<w.heap.size→k≠g2→w'.heap[k]?=w.heap[k]?)(hm:KMapAt 233 valL w' g2 m2')(hl:LInv m2' D')(hD:D<+:D'):BAt A E w' g g1 g2 vs b m1 m2' D':=by
 have hlt:=h.lt;obtain⟨es,ck,hob⟩:=h.mp2.obj;have hne:∀{k:Nat} {cur:Array Value} {T:TypeId} {z:Nat×Nat},w.heap[k]?=some (.cells cur T z)→k≠g2:=fun hk e=>by rw[e,hob]at hk;cases hk
 obtain⟨xss,ho,h1,h2⟩:=h.row;refine⟨(hs g hlt.1 (hne h.blk)).trans h.blk,⟨xss,ho.same fun k hk=>?_,h1,fun i s hi=>?_⟩,h.mp1.same (hs g1 hlt.2.1 h.ne),hm,hl,h.ni.more hD,h.ne,h.lo⟩
 · obtain⟨_,cur,hc⟩:=ho.block hk
   exact hs k (ho.lt hk) (hne hc)
 · obtain⟨va,h3,h4,h5⟩:=h2 i s hi
   exact⟨va,h3,AOwn.typed h4 fun k cur hc=>hs k (Array.getElem?_eq_some_iff.1 hc).1 (hne hc),h5⟩
theorem BAt.keepJ(h:BAt A E w g g1 g2 vs b m1 m2 D){J:Nat→Prop}(hs:∀k,k<w.heap.size→¬J k→w'.heap[k]?=w.heap[k]?)(hJ:∀k,J k→¬fpB g g1 g2 vs k∧¬A k):BAt A E w' g g1 g2 vs b m1 m2 D:=by
 have hlt:=h.lt;have hn:∀k,fpB g g1 g2 vs k→¬J k:=fun k hk e=>(hJ k e).1 hk
 obtain⟨xss,ho,h1,h2⟩:=h.row;refine⟨(hs g hlt.1 (hn g (.inl rfl))).trans h.blk,⟨xss,ho.same fun k hk=>hs k (ho.lt hk) (hn k (.inr (.inr (.inr hk)))),h1,fun i s hi=>?_⟩,h.mp1.same (hs g1 hlt.2.1 (hn g1 (.inr (.inl rfl)))),h.mp2.same (hs g2 hlt.2.2 (hn g2 (.inr (.inr (.inl rfl))))),h.li,h.ni,h.ne,h.lo⟩;obtain⟨va,h3,h4,h5⟩:=h2 i s hi;exact⟨va,h3,GOwn.same h4 fun k hk=>hs k (GOwn.lt h4 hk) (fun e=>(hJ k e).2 (h5 k hk)),h5⟩
theorem BAt.wide(h:BAt A E w g g1 g2 vs b m1 m2 D){A':Nat→Prop}(hA:∀k,A k→A' k):BAt A' E w g g1 g2 vs b m1 m2 D:=by
 obtain⟨xss,ho,h1,h2⟩:=h.row;refine⟨h.blk,⟨xss,ho,h1,fun i s hi=>?_⟩,h.mp1,h.mp2,h.li,h.ni,h.ne,h.lo⟩;obtain⟨va,h3,h4,h5⟩:=h2 i s hi;exact⟨va,h3,h4,fun k hk=>hA k (h5 k hk)⟩
theorem BAt.arc_free(h:BAt A E w g g1 g2 vs b m1 m2 D){k:Nat}{cur:Array Value}(hk:w.heap[k]?=some (Obj.cells cur 89 (0,0))):¬fpB g g1 g2 vs k:=by
 rintro(rfl|rfl|rfl|e)
 · rw[h.blk]at hk
   simp only[Option.some.injEq,Obj.cells.injEq]at hk;exact absurd hk.2.1 (by decide)
 · obtain⟨es,ck,hob⟩:=h.mp1.obj
   rw[hob]at hk;cases hk
 · obtain⟨es,ck,hob⟩:=h.mp2.obj
   rw[hob]at hk;cases hk
 · obtain⟨xss,ho,_⟩:=h.row
   obtain⟨_,cur',hc⟩:=ho.block e;rw[hk]at hc;simp only[Option.some.injEq,Obj.cells.injEq]at hc;exact absurd hc.2.1 (by decide)
end
theorem zRv{P:Program}(ρ:Operand→Value)(x y z:Operand)(t:TypeId)(dst:Option Tmp)(ty:TypeId)(pos:String)(af:Array Edge)(g:Option (Nat×Bool))(w:World):
 (execOp ρ ⟨dst,.mapUpdate t x y z,ty,pos,af,g⟩).run P w=((Instr.mapUpdate t (ρ x) (ρ y) (ρ z)).run P w).andThen (fun _ w' => .ok .skip w'):=by
 simp only[execOp,Sem.run_bind,Sem.run_pure]
end
