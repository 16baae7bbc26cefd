import Derived.Test.YtobjpljdgieklaaGreatDoorJ9
import Derived.DeepKeys4
import Derived.Maps.Keyed
namespace Go.Proofs.YtobjpljdgieklaaGreatDoor
open Go.RowKit Nums Fm Go.Maps Go.MapKept
set_option maxRecDepth 100000
theorem zQv:laidOutB Tryz.prog=true:=by kernel_rfl
theorem zVo:Keyed Tryz.prog 214:=Keyed.of_law (deep_law_laid zQv (m:=3) (by omega) (of_decide_eq_true (by kernel_rfl)) (by kernel_rfl) (by kernel_rfl))
theorem zVn:Keyed Tryz.prog 248:=Keyed.of_law (deep_law_laid zQv (m:=4) (by omega) (of_decide_eq_true (by kernel_rfl)) (by kernel_rfl) (by kernel_rfl))
abbrev SK:=Bool×Int×Nat
abbrev LK:=Nat×Arc
def valK(x:SK):Value := .agg #[.bool x.1,.int .i64 x.2.1,.int .i64 x.2.2]
def valL(x:LK):Value := .agg #[.int .i64 x.1,.int .i32 x.2.label,.int .i64 x.2.out,.int .i64 x.2.to]
def zB3(n:Int):Prop := -9223372036854775808≤n∧n≤9223372036854775807
def zIk(n:Int):Prop := -2147483648≤n∧n≤2147483647
theorem wf64{n:Int}(h:zB3 n):(Lit.int .i64 n).wf=true:=by
 obtain⟨h1,h2⟩:=h;simp[Lit.wf,IntKind.min,IntKind.max,IntKind.bits,IntKind.signed];omega
theorem wf32{n:Int}(h:zIk n):(Lit.int .i32 n).wf=true:=by
 obtain⟨h1,h2⟩:=h;simp[Lit.wf,IntKind.min,IntKind.max,IntKind.bits,IntKind.signed];omega
theorem typesF:Tryz.prog.types.size+1=4+(Tryz.prog.types.size-3):=by
 have:3≤Tryz.prog.types.size:=of_decide_eq_true (by kernel_rfl);omega
theorem keyTypeK:Tryz.prog.keyType 214=true:=by kernel_rfl
theorem keyTypeL:Tryz.prog.keyType 248=true:=by kernel_rfl
theorem cellsK:Tryz.prog.cellsOf 214=3:=by kernel_rfl
theorem cellsL:Tryz.prog.cellsOf 248=4:=by kernel_rfl
theorem cellsArc:Tryz.prog.cellsOf 126=3:=by kernel_rfl
theorem zLc:Tryz.prog.cellsOf 3=1:=by kernel_rfl
theorem zW8:Tryz.prog.cellsOf 4=1:=by kernel_rfl
theorem zW3:Tryz.prog.cellsOf 21=1:=by kernel_rfl
theorem zFp(d:Nat){n:Int}(h:(Lit.int .i64 n).wf=true):Tryz.prog.keyLits (d+1) 3 [.int .i64 n]=some [.int .i64 n]:=by
 unfold Program.keyLits;rw[Tryz.underlying3];exact if_pos ⟨rfl,h⟩
theorem zVa(d:Nat){n:Int}(h:(Lit.int .i32 n).wf=true):Tryz.prog.keyLits (d+1) 21 [.int .i32 n]=some [.int .i32 n]:=by
 unfold Program.keyLits;rw[Tryz.underlying21];exact if_pos ⟨rfl,h⟩
theorem zVb(d:Nat)(b:Bool):Tryz.prog.keyLits (d+1) 4 [.bool b]=some [.bool b]:=by
 unfold Program.keyLits;rw[Tryz.underlying4]
theorem lits_A(d:Nat){a b c:Int}(h1:(Lit.int .i32 a).wf=true)(h2:(Lit.int .i64 b).wf=true)(h3:(Lit.int .i64 c).wf=true):Tryz.prog.keyLits (d+2) 126 [.int .i32 a,.int .i64 b,.int .i64 c]=some [.int .i32 a,.int .i64 b,.int .i64 c]:=by
 unfold Program.keyLits;rw[Tryz.underlying126];refine(if_pos ⟨cellsArc.symm,by simp⟩).trans ?_;simp only[List.mapM_cons,List.mapM_nil,zW3,zLc,List.drop_zero,List.drop_succ_cons,List.take_succ_cons,List.take_zero,zVa d h1,zFp d h2,zFp d h3];rfl
theorem key_K(x:SK)(h1:zB3 x.2.1)(h2:zB3 x.2.2):∃l,keyOf Tryz.prog 214 (valK x)=some l:=by
 have e1:=wf64 h1;have e2:=wf64 h2;obtain⟨d,hd⟩:∃d,Tryz.prog.types.size+1=d+4:=⟨Tryz.prog.types.size-3,by have:=typesF;omega⟩;have hl:Tryz.prog.keyLits (d+4) 214 [.bool x.1,.int .i64 x.2.1,.int .i64 x.2.2]=some [.bool x.1,.int .i64 x.2.1,.int .i64 x.2.2]:=by
  unfold Program.keyLits;rw[Tryz.underlying214];refine(if_pos ⟨cellsK.symm,by simp⟩).trans ?_;simp only[List.mapM_cons,List.mapM_nil,zW8,zLc,List.drop_zero,List.drop_succ_cons,List.take_succ_cons,List.take_zero,zVb (d+2),zFp (d+2) e1,zFp (d+2) e2];rfl
 have hf:(valK x).formed Tryz.prog 214=true:=by
  unfold valK Value.formed;simp only[Tryz.underlying214,cellsK];rfl
 unfold keyOf;rw[Tryz.underlying214];simp only[keyTypeK,hf,Bool.and_self,if_true];rw[hd,show(valK x).cells.toList=[.bool x.1,.int .i64 x.2.1,.int .i64 x.2.2]from rfl,hl];exact⟨_,rfl⟩
theorem key_L(x:LK)(h0:zB3 x.1)(h1:zIk x.2.label)(h2:zB3 x.2.out)(h3:zB3 x.2.to):∃l,keyOf Tryz.prog 248 (valL x)=some l:=by
 have e0:=wf64 h0;have e1:=wf32 h1;have e2:=wf64 h2;have e3:=wf64 h3;obtain⟨d,hd⟩:∃d,Tryz.prog.types.size+1=d+4:=⟨Tryz.prog.types.size-3,by have:=typesF;omega⟩;have hl:Tryz.prog.keyLits (d+4) 248 [.int .i64 x.1,.int .i32 x.2.label,.int .i64 x.2.out,.int .i64 x.2.to]=some [.int .i64 x.1,.int .i32 x.2.label,.int .i64 x.2.out,.int .i64 x.2.to]:=by
  unfold Program.keyLits;rw[Tryz.underlying248];refine(if_pos ⟨cellsL.symm,by simp⟩).trans ?_;simp only[List.mapM_cons,List.mapM_nil,cellsArc,zLc,List.drop_zero,List.drop_succ_cons,List.take_succ_cons,List.take_zero,zFp (d+2) e0,lits_A (d+1) e1 e2 e3];rfl
 have hf:(valL x).formed Tryz.prog 248=true:=by
  unfold valL Value.formed;simp only[Tryz.underlying248,cellsL];rfl
 unfold keyOf;rw[Tryz.underlying248];simp only[keyTypeL,hf,Bool.and_self,if_true];rw[hd,show(valL x).cells.toList=[.int .i64 x.1,.int .i32 x.2.label,.int .i64 x.2.out,.int .i64 x.2.to]from rfl,hl];exact⟨_,rfl⟩
def KMapAt{κ:Type}(kt:TypeId)(K:κ→Value)(w:World)(b:Nat)(m:List (κ×Nat)):Prop:=
 ∃es clock,w.heap[b]?=some (.map es clock)∧es.toList.map (fun e=>(e.key,e.val))=m.map (fun p=>(K p.1,Value.int .i64 p.2))∧∀p∈m,∃l,keyOf Tryz.prog kt (K p.1)=some l
section
variable {κ:Type} {kt t et:TypeId} {K:κ→Value} {w w':World} {b:Nat} {m:List (κ×Nat)}
theorem KMapAt.same(h:KMapAt kt K w b m)(e:w'.heap[b]?=w.heap[b]?):KMapAt kt K w' b m:=by
 obtain⟨es,clock,hb,r⟩:=h;exact⟨es,clock,e.trans hb,r⟩
theorem KMapAt.lt(h:KMapAt kt K w b m):b<w.heap.size:=by
 obtain⟨es,clock,hb,_⟩:=h;exact(Array.getElem?_eq_some_iff.1 hb).1
theorem KMapAt.obj(h:KMapAt kt K w b m):∃es clock,w.heap[b]?=some (.map es clock):=by
 obtain⟨es,clock,hb,_⟩:=h;exact⟨es,clock,hb⟩
theorem KMapAt.entry{es:Array MapEntry}(h:es.toList.map (fun e=>(e.key,e.val))=m.map (fun p=>(K p.1,Value.int .i64 p.2))){j:Nat}{e:MapEntry}(he:es.toList[j]?=some e):∃p,m[j]?=some p∧e.key=K p.1∧e.val = .int .i64 p.2:=by
 have h2:=congrArg (·[j]?) h;simp only[List.getElem?_map,he,Option.map_some]at h2;cases hm:m[j]? with
 |none=>rw[hm]at h2;simp at h2
 |some p=>
  rw[hm]at h2;simp only[Option.map_some,Option.some.injEq,Prod.mk.injEq]at h2;exact⟨p,rfl,h2.1,h2.2⟩
theorem KMapAt.keyed{es:Array MapEntry}(h:es.toList.map (fun e=>(e.key,e.val))=m.map (fun p=>(K p.1,Value.int .i64 p.2)))(hk:∀p∈m,∃l,keyOf Tryz.prog kt (K p.1)=some l):∀e∈es.toList,∃l,keyOf Tryz.prog kt e.key=some l:=by
 intro e he;obtain⟨j,hj⟩:=List.mem_iff_getElem?.1 he;obtain⟨p,hp,h1,_⟩:=KMapAt.entry h hj;rw[h1];exact hk p (List.mem_of_getElem? hp)
theorem KMapAt.look(h:KMapAt kt K w b m)(hK:Keyed Tryz.prog kt)(ht:Tryz.prog.underlying t=some (.map kt 3)){x:κ}{l:Lit}(hx:keyOf Tryz.prog kt (K x)=some l)(hinj:∀y,K y=K x→y=x):
 ((∀n,(x,n)∉m)∧(Instr.lookup t (.map (some b)) (K x) true).run Tryz.prog w = .ok (.tuple #[.int .i64 0,.bool false]) w) ∨
 ∃n,(x,n)∈m∧(Instr.lookup t (.map (some b)) (K x) true).run Tryz.prog w = .ok (.tuple #[.int .i64 n,.bool true]) w:=by
 obtain⟨es,clock,hb,hm,hk⟩:=h;have hz:(zeroValue 3).run Tryz.prog w = .ok (.int .i64 0) w:=by kernel_rfl
 rcases hK.find w hx es.toList (KMapAt.keyed hm hk)with⟨h1,h2⟩|⟨j,e,h1,h2,h3⟩
 · refine .inl ⟨fun n hn=>?_,?_⟩
   · obtain⟨j,hj⟩:=List.mem_iff_getElem?.1 hn
     have h4:=congrArg (·[j]?) hm;simp only[List.getElem?_map,hj,Option.map_some]at h4;cases he:es.toList[j]? with
     |none=>rw[he]at h4;simp at h4
     |some e=>
      rw[he]at h4;simp only[Option.map_some,Option.some.injEq,Prod.mk.injEq]at h4;exact h2 e (List.mem_of_getElem? he) h4.1
   · simp[Instr.lookup,run_underlying ht,MapKept.run_getObj_map hb,hK.check w _ hx,h1,hz,Result.andThen]
 · obtain⟨p,hp,h4,h5⟩:=KMapAt.entry hm h2
   have hpx:p.1=x:=hinj _ (h4.symm.trans h3);refine .inr ⟨p.2,?_,?_⟩
   · rw[←hpx];exact List.mem_of_getElem? hp
   · simp[Instr.lookup,run_underlying ht,MapKept.run_getObj_map hb,hK.check w _ hx,h1,h5,Result.andThen]
theorem KMapAt.look_new(h:KMapAt kt K w b m)(hK:Keyed Tryz.prog kt)(ht:Tryz.prog.underlying t=some (.map kt 3)){x:κ}{l:Lit}(hx:keyOf Tryz.prog kt (K x)=some l)(hinj:∀y,K y=K x→y=x)(hn:∀n,(x,n)∉m):
 (Instr.lookup t (.map (some b)) (K x) true).run Tryz.prog w = .ok (.tuple #[.int .i64 0,.bool false]) w:=by
 rcases h.look hK ht hx hinj with⟨_,h1⟩|⟨n,h1,_⟩
 · exact h1
 · exact absurd h1 (hn n)
theorem KMapAt.look_old(h:KMapAt kt K w b m)(hK:Keyed Tryz.prog kt)(ht:Tryz.prog.underlying t=some (.map kt 3)){x:κ}{l:Lit}(hx:keyOf Tryz.prog kt (K x)=some l)(hinj:∀y,K y=K x→y=x){n:Nat}(hn:(x,n)∈m)(hu:∀n',(x,n')∈m→n'=n):
 (Instr.lookup t (.map (some b)) (K x) true).run Tryz.prog w = .ok (.tuple #[.int .i64 n,.bool true]) w:=by
 rcases h.look hK ht hx hinj with⟨h1,_⟩|⟨n',h1,h2⟩
 · exact absurd hn (h1 n)
 · rw[hu n' h1]at h2;exact h2
theorem KMapAt.store(h:KMapAt kt K w b m)(hK:Keyed Tryz.prog kt)(ht:Tryz.prog.underlying t=some (.map kt 3)){x:κ}{l:Lit}(hx:keyOf Tryz.prog kt (K x)=some l)(hinj:∀y,K y=K x→y=x)(hnew:∀n,(x,n)∉m)(n:Nat):
 ∃w',(Instr.mapUpdate t (.map (some b)) (K x) (.int .i64 n)).run Tryz.prog w = .ok () w'∧KMapAt kt K w' b (m++[(x,n)])∧w'.os=w.os∧w'.tape=w.tape∧w'.output=w.output∧w'.heap.size=w.heap.size∧∀k,k≠b→w'.heap[k]?=w.heap[k]?:=by
 obtain⟨es,clock,hb,hm,hk⟩:=h;rcases hK.find w hx es.toList (KMapAt.keyed hm hk)with⟨h1,h2⟩|⟨j,e,h1,h2,h3⟩
 · refine⟨{ w with heap:=w.heap.setIfInBounds b (.map (es.push ⟨K x,.int .i64 n,clock⟩) (clock+1)) },?_,⟨es.push ⟨K x,.int .i64 n,clock⟩,clock+1,(heap_set hb).1,by simp[hm],fun p hp=>?_⟩,rfl,rfl,rfl,by simp,fun i hi=>(heap_set hb).2 i hi⟩
   · simp[Instr.mapUpdate,run_underlying ht,MapKept.run_getObj_map hb,hK.check w _ hx,h1,MapKept.run_setObj_map _ hb,Result.andThen]
   · rcases List.mem_append.1 hp with hp|hp
     · exact hk p hp
     · rw[List.mem_singleton.1 hp];exact⟨l,hx⟩
 · obtain⟨p,hp,h4,h5⟩:=KMapAt.entry hm h2
   have hpx:p.1=x:=hinj _ (h4.symm.trans h3);exact absurd (show(x,p.2)∈m by rw[←hpx];exact List.mem_of_getElem? hp) (hnew p.2)
theorem KMapAt.len(h:KMapAt kt K w b m)(ht:Tryz.prog.underlying t=some (.map kt 3))(ty:TypeId):(Builtin.len_ #[t] ty #[.map (some b)]).run Tryz.prog w = .ok (.int .i64 (m.length:Int)) w:=by
 obtain⟨es,clock,hb,hm,_⟩:=h;have hl:es.size=m.length:=by simpa using congrArg List.length hm
 simp[Builtin.len_,run_underlying ht,MapKept.run_getObj_map hb,Result.andThen,goInt,hl]
end
theorem zJz{x y:SK}(h:valK y=valK x):y=x:=by
 obtain⟨a,b,c⟩:=x;obtain⟨a',b',c'⟩:=y;simp[valK]at h;obtain⟨h1,h2,h3⟩:=h;subst h1;subst h2;rw[Int.ofNat_inj.1 h3]
theorem zJy{x y:LK}(h:valL y=valL x):y=x:=by
 obtain⟨a,b,c,d⟩:=x;obtain⟨a',b',c',d'⟩:=y;simp[valL]at h;obtain⟨h1,h2,h3,h4⟩:=h;subst h2;subst h3;rw[Int.ofNat_inj.1 h1,Int.ofNat_inj.1 h4]
