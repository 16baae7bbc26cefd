/- Texts that were written apart, joined. -/
import Derived.Test.YthecngkdmnadoaaGreatG05
import Derived.Maps.AppendAt
import Derived.Deep.RegionHeld3
namespace Go.Proofs.YthecngkdmnadoaaGreat
open Go.RowKit
set_option maxRecDepth 100000
def pad(xs:List Nat):List Nat:=xs++List.replicate (64-xs.length) 0
theorem pad_len{xs:List Nat}(h:xs.length≤64):(pad xs).length=64:=by simp[pad];omega
theorem splice_pad{xs:List Nat}(h:xs.length≤64):splice (verC zver) 0 (xs.map bv)=verC (pad xs):=by
 apply Array.ext_getElem?;intro i;have hs:(verC zver).size=64:=by rw[verC_size,zver_len]
 by_cases hi:i<64
 · rw[splice_get _ _ _ _ (by omega)]
   by_cases hx:i<xs.length
   · rw[if_pos (by simp;omega)]
     simp[verC,pad,List.getElem?_append_left,hx]
   · rw[if_neg (by simp;omega)]
     rw[verC,verC,List.getElem?_toArray,List.getElem?_toArray,List.getElem?_map,List.getElem?_map,pad,List.getElem?_append_right (by omega),zver,List.getElem?_replicate,List.getElem?_replicate,if_pos hi,if_pos (by omega)]
 · rw[Array.getElem?_eq_none (by rw[splice_size];omega),Array.getElem?_eq_none (by rw[verC_size,pad_len h];omega)]
def copyV(P:Program)(x y:Value)(ty:TypeId)(w:World):Result Value:=(Builtin.copy_ #[34,34] ty #[x,y]).run P w
theorem exec_copy_ver(ρ:Operand→Value)(x y:Operand)(dst:Option Tmp)(ty:TypeId)(pos:String)(af:Array Edge)(g:Option (Nat×Bool))(w:World):
 (execOp ρ ⟨dst,.call { callee := .builtin .copy,args:=#[x,y],argTypes:=#[34,34] },ty,pos,af,g⟩).run Tryz.prog w=(copyV Tryz.prog (ρ x) (ρ y) ty w).andThen (fun v w' => .ok (.value v) w'):=by
 simp only[execOp,resolve,invoke,builtin,Sem.run_bind,Sem.run_pure,Result.andThen_ok,List.map_toArray,List.map_cons,List.map_nil,copyV]
theorem copyV_new(N:Nat)(w:World)(y:Value)(xs:List Nat)(ty:TypeId)(hr:Row N w y xs)(hx:xs.length≤64):
 copyV Tryz.prog (.slice (some ⟨w.heap.size,0,none⟩) 64 64) y ty (w.alloc (.cells (verC zver) 93)) = .ok (.int .i64 (xs.length:Int)) (w.alloc (.cells (verC (pad xs)) 93)):=by
 obtain⟨i0,hi,hz0,hz1,hz2⟩:=info_parts infoByte;obtain⟨ao,cap,rfl,hcap,hno,hc⟩:=hr;have hmin:Nat.min xs.length 64=xs.length:=Nat.min_eq_left hx;have hs64:(verC zver).size=64:=by rw[verC_size,zver_len]
 have hsz:(sizeOf 5).run Tryz.prog (w.alloc (.cells (verC zver) 93)) = .ok 1 (w.alloc (.cells (verC zver) 93)):=by simp[sizeOf,typeInfo,hi,hz1,Result.andThen]
 have hfc:(Builtin.firstCells 1 xs.length (.slice ao xs.length cap)).run Tryz.prog (w.alloc (.cells (verC zver) 93)) = .ok (verC xs) (w.alloc (.cells (verC zver) 93)):=by
  cases ao with
  |none=>
   have e:xs=[]:=by
    cases xs with
    |nil=>rfl
    |cons y r=>obtain⟨b,off,e,_⟩:=hc (by simp);cases e
   subst e;simp[Builtin.firstCells,verC]
  |some ad=>
   have hcells:∀(j:Nat) (v:Value),(xs.map bv)[j]?=some v→(w.alloc (.cells (verC zver) 93)).cell? (ad.add j)=some v:=by
    intro j u hj;have hjl:j<xs.length:=by
     have:=(List.getElem?_eq_some_iff.1 hj).1;simpa using this
    obtain⟨b,off,e2,_,hc2⟩:=hc (by omega);obtain rfl:=Option.some.inj e2;have h2:=hc2 j hjl;(have hadd:(⟨b,off,none⟩:Addr).add j=⟨b,off+j,none⟩:=by unfold Addr.add;split<;>simp_all);have hbl:=lt_of_cell h2;rw[hadd,World.cell?_of_block (w:=w) (a:=⟨b,off+j,none⟩) (alloc_old w _ hbl),h2];rw[List.getElem?_map,List.getElem?_eq_getElem hjl]at hj;simp at hj;rw[←hj];simp[List.getD_eq_getElem?_getD,List.getElem?_eq_getElem hjl]
   have:=run_loadCells_list (P:=Tryz.prog) (w.alloc (.cells (verC zver) 93)) ad (xs.map bv) hcells;rw[List.length_map]at this;simp only[Builtin.firstCells,Nat.mul_one];exact this
 have hst:(storeCells ⟨w.heap.size,0,none⟩ (verC xs).toList).run Tryz.prog (w.alloc (.cells (verC zver) 93)) = .ok () (w.alloc (.cells (verC (pad xs)) 93)):=by
  have ht:=new_there w (verC zver) 93 (verC xs).size (by rw[hs64,verC_size];exact hx)
  have:=run_storeCells_cells (P:=Tryz.prog) w.heap.size 0 (verC xs).toList 0 (w.alloc (.cells (verC zver) 93)) (fun j hj=>by have:=(ht j (by simpa using hj)).1;simpa using this) (fun _ _=>by simp)
   (fun v hv=>(Array.all_eq_true_iff_forall_mem.1 (verC_one xs)) v (by simpa using hv))
  rw[this,Nat.add_zero,setCells_new];congr 3;exact splice_pad hx
 simp only[copyV,Builtin.copy_,Builtin.lenOf,Sem.run_bind,run_underlying Tryz.underlying34,Sem.run_pure,Result.andThen_ok,List.getElem?_toArray,List.getElem?_cons_zero,List.getElem?_cons_succ,hsz,hmin,hfc,hst];rfl
theorem fold_splice(vs:List Value):∀(C:Array Value) (k:Nat),(vs.zipIdx k).foldl (fun cs (c,j)=>cs.setIfInBounds j c) C=splice C k vs:=by
 induction vs with
 |nil=>intro C k;rfl
 |cons v r ih=>intro C k;rw[List.zipIdx_cons,List.foldl_cons,ih,splice]
theorem buildV(ρ:Operand→Value)(x:Operand)(v:List Nat)(hx:ρ x=verV v)(hv:v.length=64)(dst:Option Tmp)(ty:TypeId)(pos:String)(af:Array Edge)(g:Option (Nat×Bool))(w:World):
 (execOp ρ ⟨dst,.buildSlice 90 1 #[(0,x)],ty,pos,af,g⟩).run Tryz.prog w = .ok (.value (.slice (some ⟨w.heap.size,0,none⟩) 1 1)) (w.alloc (.cells (verC v) 93)):=by
 obtain⟨i,hi,hz,hs,hb⟩:=info_parts info_ver;have hsz:(sizeOf 93).run Tryz.prog w = .ok 64 w:=by simp[sizeOf,typeInfo,hi,hs,Result.andThen]
 have hfill:∀C:Array Value,C.size=64→Instr.fill (fun i=>some (i*64,64)) C [(0,verV v)]=some (verC v):=by
  intro C hC;have h1:(verV v).cells.size=64:=by show(verC v).size=64;rw[verC_size,hv]
  have hl:(verC v).toList.length=C.size:=by rw[Array.length_toList,verC_size,hv,hC]
  simp only[Instr.fill,Nat.zero_mul,h1,ne_eq,not_true_eq_false,decide_false,Nat.zero_add,hC,gt_iff_lt,Nat.lt_irrefl,Bool.or_self,Bool.false_eq_true,if_false,Option.some.injEq];rw[show(verV v).cells=verC v from rfl,←Array.foldl_toList,Array.toList_zipIdx,fold_splice,splice_full C _ hl]
 have hr:((Array.range (1*64)).map ((verC zver)[·%(verC zver).size]!)).size=64:=by simp
 have hbs:(Instr.buildSlice 90 1 #[(0,verV v)]).run Tryz.prog w = .ok (.slice (some ⟨w.heap.size,0,none⟩) 1 1) (w.alloc (.cells (verC v) 93)):=by
  simp only[Instr.buildSlice,Sem.run_bind,run_underlying Tryz.underlying90,Result.andThen_ok,hsz,zero_ver,show(verV zver).cells=verC zver from rfl,show ¬(1*64>2 ^ 24)by decide,show ¬(1*64=0)by decide,if_false,Sem.run_pure,hfill _ hr];rfl
 simp only[execOp,Sem.run_bind,List.map_toArray,List.map_cons,List.map_nil,hx,hbs,Result.andThen_ok,Sem.run_pure]
theorem wp_append_ver{w:World}{o:Oper}{a:Act}{K:Act→World→Prop}{Q:Exit→Act→World→Prop}(s x:Operand)(ho:o.op = .call { callee := .builtin .append,args:=#[s,x],argTypes:=#[90,90] })
 (v:Value) (n:Nat) (xs:List Value) (hs:a.eval s=v) (hown:w.ownsRow 0 93 64 v n xs) (g:Nat) (ver:List Nat) (hx:a.eval x = .slice (some ⟨g,0,none⟩) 1 1) (hg:w.heap[g]?=some (.cells (verC ver) 93 (0,0))) (h64:ver.length=64) (hn:(n+1)*64≤140737488355328)
 (h:∀v' w',w'.ownsRow 0 93 64 v' (n+1) (xs++ver.map bv)→w.grownBy w' v.ownBlock→v' ≠ .slice none 0 0→(v'.ownBlock=v.ownBlock∨v'.ownBlock=some w.heap.size)→K (a.put o.dst v') w'):o.wp Tryz.prog a w K Q:=by
 obtain⟨i,hi,hz,hs1,hb⟩:=info_parts info_ver;have hc:∀(j:Nat) (u:Value),(ver.map bv)[j]?=some u→w.cell? ((⟨g,0,none⟩:Addr).add j)=some u:=by
  intro j u hj;have:=range_block (v:=ver) hg j u hj;rw[Addr.add_mid];exact this
 obtain⟨v',w',hr,h2,h3,h4,h5⟩:=run_append_own_at (P:=Tryz.prog) w 0 90 o.type 93 i _ 64 64 Tryz.underlying90 hi hz hs1 hb (by simp[Value.cells]) (by decide) v n xs hown ⟨g,0,none⟩ 1 1 (ver.map bv) (by simp[h64]) hc
  (fun u hu=>by obtain⟨z,_,rfl⟩:=List.mem_map.1 hu;rfl) (by unfold maxLen;omega) hn (Nat.zero_le _)
 unfold Oper.wp execOp;simp only[ho,resolve,invoke,builtin,Sem.run_bind,Sem.run_pure,Result.andThen_ok,List.map_toArray,List.map_cons,List.map_nil,hs,hx,hr];exact h v' w' h2 h3 (fun e=>by have:=(h4.1 e).2;omega) h5
end Go.Proofs.YthecngkdmnadoaaGreat

namespace Go.Proofs.YthecngkdmnadoaaGreat
open Go.RowKit
set_option maxRecDepth 100000
theorem mput_perm{α:Type}(k:Int)(v:α)(m:List (Int×α)):(mput k v m).Perm ((k,v)::mdel k m):=by
 induction m with
 |nil=>exact List.Perm.refl _
 |cons p r ih=>
  by_cases e:p.1=k
  · rw[mput,if_pos e,mdel,if_pos e]
  · rw[mput,if_neg e,mdel,if_neg e]
    exact(ih.cons p).trans (List.Perm.swap _ _ _)
theorem mget_perm{α:Type}{k:Int}{v:α}{m:List (Int×α)}(h:mget k m=some v):m.Perm ((k,v)::mdel k m):=by
 induction m with
 |nil=>simp[mget]at h
 |cons p r ih=>
  by_cases e:p.1=k
  · rw[mget,if_pos e]at h
    rw[mdel,if_pos e];have:p=(k,v):=Prod.ext e (Option.some.inj h);rw[this]
  · rw[mget,if_neg e]at h
    rw[mdel,if_neg e];exact((ih h).cons p).trans (List.Perm.swap _ _ _)
theorem mdel_none{α:Type}{k:Int}{m:List (Int×α)}(h:mget k m=none):mdel k m=m:=mdel_of_not_mem (mget_none.1 h)
def fsGet(F:List (Int×Nat×List (Int×FS)))(a n:Int):Option FS:=(mget a F).bind fun x=>mget n x.2
theorem fsGet_put(a n a' n':Int)(x':FS)(nb:Nat)(F:List (Int×Nat×List (Int×FS))):fsGet (putM a n x' nb F) a' n'=if a'=a∧n'=n then some x' else fsGet F a' n':=by
 unfold fsGet putM;rw[mget_mput];by_cases ea:a'=a
 · rw[if_pos ea,ea]
   cases hm:mget a F with
   |none=>
    simp only[Option.bind_some,Option.bind_none,true_and];by_cases en:n'=n
    · simp[mget,en]
    · have:¬n=n':=fun e=>en e.symm
      simp[mget,en,this]
   |some x=>
    simp only[Option.bind_some,mget_mput,true_and]
 · rw[if_neg ea,if_neg (fun e=>ea e.1)]
theorem fblocks_put(a n:Int)(x':FS)(nb:Nat)(F:List (Int×Nat×List (Int×FS))):
 ∃R,(Sh.fblocks F).Perm (((fsGet F a n).map FS.g).toList++R)∧(Sh.fblocks (putM a n x' nb F)).Perm ((if mget a F=none then [nb]else [])++x'.g::R):=by
 let h:Int×Nat×List (Int×FS)→List Nat:=fun p=>p.2.1::p.2.2.map (·.2.g)
 have hput:∀y:Nat×List (Int×FS),(Sh.fblocks (mput a y F)).Perm (h (a,y)++(mdel a F).flatMap h):=fun y=>(mput_perm a y F).flatMap_right h
 unfold fsGet putM;cases hm:mget a F with
 |none=>
  refine⟨Sh.fblocks F,by simp,?_⟩;refine(hput _).trans ?_;rw[mdel_none hm];exact List.Perm.refl _
 |some x=>
  have hF:(Sh.fblocks F).Perm (h (a,x)++(mdel a F).flatMap h):=(mget_perm hm).flatMap_right h;have hin:∀y:FS,((mput n y x.2).map (·.2.g)).Perm (y.g::(mdel n x.2).map (·.2.g)):=fun y=>(mput_perm n y x.2).map _
  refine⟨x.1::((mdel n x.2).map (·.2.g)++(mdel a F).flatMap h),?_,?_⟩
  · refine hF.trans ?_
    simp only[Option.bind_some];cases hn:mget n x.2 with
    |none=>rw[mdel_none hn];exact List.Perm.refl _
    |some y=>
     have:=((mget_perm hn).map (fun s:Int×FS=>s.2.g)).append_right ((mdel a F).flatMap h);exact(this.cons x.1).trans (List.Perm.swap _ _ _)
  · refine(hput _).trans ?_
    rw[if_neg (by simp)];exact(((hin x').append_right _).cons x.1).trans (List.Perm.swap _ _ _)
theorem fget_eq(sh:Sh)(a n:Int):fget sh a n=((fsGet sh.F a n).map FS.vs).getD []:=by
 unfold fget fsGet;cases(mget a sh.F).bind fun x=>mget n x.2<;>rfl
theorem rep_write{sh:Sh}{S:List Sec}(h:Rep sh S)(a n:Int)(v:List Nat)(x':FS)(nb:Nat)(hx:x'.vs=fget sh a n++[v]):Rep { sh with F:=putM a n x' nb sh.F } (wr a n v S):=by
 refine⟨wr_sorted h.sorted,fun a' n'=>?_,fun a' n'=>?_,fun s hs=>?_⟩
 · have:lget { sh with F:=putM a n x' nb sh.F } a' n'=lget sh a' n':=rfl
   rw[this,h.last,find_wr h.sorted];by_cases e:a'=a∧n'=n
   · rw[if_pos e,e.1,e.2]
     cases findS a n S<;>rfl
   · rw[if_neg e]
 · rw[fget_eq]
   show((fsGet (putM a n x' nb sh.F) a' n').map FS.vs).getD []=_;rw[fsGet_put,find_wr h.sorted];by_cases e:a'=a∧n'=n
   · rw[if_pos e,if_pos e]
     simp only[Option.map_some,Option.getD_some,hx,h.fresh,wrS];cases findS a n S<;>rfl
   · rw[if_neg e,if_neg e,←fget_eq,h.fresh]
 · rcases wr_mem hs with hs|⟨_,_,⟨_,h2⟩|⟨s',_,_,h2⟩⟩
   · exact h.there s hs
   · right;rw[h2];simp
   · right;rw[h2];simp
theorem wr_fresh_le{N:Nat}{a n:Int}{v:List Nat}{S:List Sec}(h:∀s∈S,s.fresh.length≤N):∀s∈wr a n v S,s.fresh.length≤N+1:=by
 intro s hs;rcases wr_mem hs with hs|⟨_,_,⟨_,h2⟩|⟨s',hs',_,h2⟩⟩
 · have:=h s hs;omega
 · rw[h2];simp
 · rw[h2];have:=h s' hs';simp;omega
theorem g_inj{l:List (Int×FS)}(h:(l.map (·.2.g)).Nodup){s t:Int×FS}(hs:s∈l)(ht:t∈l)(e:s.2.g=t.2.g):s=t:=by
 induction l with
 |nil=>cases hs
 |cons x r ih=>
  obtain⟨h1,h2⟩:=List.nodup_cons.1 h;rcases List.mem_cons.1 hs with e1|hs<;>rcases List.mem_cons.1 ht with e2|ht
  · rw[e1,e2]
  · exact absurd (List.mem_map.2 ⟨t,ht,by rw[←e,e1]⟩) h1
  · exact absurd (List.mem_map.2 ⟨s,hs,by rw[e,e2]⟩) h1
  · exact ih h2 hs ht
theorem flat_nodup{F:List (Int×Nat×List (Int×FS))}(h:(Sh.fblocks F).Nodup):
 (∀p∈F,∀q∈F,∀s∈p.2.2,∀t∈q.2.2,s.2.g=t.2.g→p=q∧s=t)∧(∀p∈F,∀q∈F,∀t∈q.2.2,p.2.1≠t.2.g)∧(∀p∈F,∀q∈F,p.2.1=q.2.1→p=q):=by
 induction F with
 |nil=>exact⟨fun p hp=>(by cases hp),fun p hp=>(by cases hp),fun p hp=>(by cases hp)⟩
 |cons x r ih=>
  have h':((x.2.1::x.2.2.map (·.2.g))++Sh.fblocks r).Nodup:=h;rw[List.nodup_append]at h';obtain⟨h1,h2,h3⟩:=h';obtain⟨h4,h5⟩:=List.nodup_cons.1 h1;obtain⟨i1,i2,i3⟩:=ih h2;have gx:∀s∈x.2.2,s.2.g∈x.2.1::x.2.2.map (·.2.g):=fun s hs => .tail _ (List.mem_map.2 ⟨s,hs,rfl⟩)
  refine⟨fun p hp q hq s hs t ht e=>?_,fun p hp q hq t ht e=>?_,fun p hp q hq e=>?_⟩
  · rcases List.mem_cons.1 hp with e1|hp1<;>rcases List.mem_cons.1 hq with e2|hq1
    · subst e1;subst e2;exact⟨rfl,g_inj h5 hs ht e⟩
    · subst e1;exact absurd e (h3 _ (gx s hs) _ (mem_fblocks2 hq1 ht))
    · subst e2;exact absurd e.symm (h3 _ (gx t ht) _ (mem_fblocks2 hp1 hs))
    · exact i1 p hp1 q hq1 s hs t ht e
  · rcases List.mem_cons.1 hp with e1|hp1<;>rcases List.mem_cons.1 hq with e2|hq1
    · subst e1;subst e2;exact h4 (List.mem_map.2 ⟨t,ht,e.symm⟩)
    · subst e1;exact h3 _ (.head _) _ (mem_fblocks2 hq1 ht) e
    · subst e2;exact h3 _ (gx t ht) _ (mem_fblocks hp1) e.symm
    · exact i2 p hp1 q hq1 t ht e
  · rcases List.mem_cons.1 hp with e1|hp1<;>rcases List.mem_cons.1 hq with e2|hq1
    · rw[e1,e2]
    · subst e1;exact absurd e (h3 _ (.head _) _ (mem_fblocks hq1))
    · subst e2;exact absurd e.symm (h3 _ (.head _) _ (mem_fblocks hp1))
    · exact i3 p hp1 q hq1 e
theorem mem_putM{a n:Int}{x':FS}{nb:Nat}{F:List (Int×Nat×List (Int×FS))}(hF:(keys F).Nodup)(hi:∀p∈F,(keys p.2.2).Nodup){p:Int×Nat×List (Int×FS)}(hp:p∈putM a n x' nb F){s:Int×FS}(hs:s∈p.2.2):
 s.2=x'∨∃q∈F,s∈q.2.2∧¬(q.1=a∧s.1=n):=by
 unfold putM at hp;rcases mem_mput_ne hF hp with e|⟨hp,hne⟩
 · subst e
   cases hm:mget a F with
   |none=>
    rw[hm]at hs;simp only[List.mem_singleton]at hs;exact .inl (by rw[hs])
   |some x=>
    rw[hm]at hs;have hx:=mem_keys_of_mget hm;rcases mem_mput_ne (hi _ hx) hs with e|⟨hs,hne⟩
    · exact .inl (by rw[e])
    · exact .inr ⟨_,hx,hs,fun e=>hne e.2⟩
 · exact .inr ⟨p,hp,hs,fun e=>hne e.1⟩
theorem held_write{p:Nat}{sh:Sh}{W W2 W3:World}{a n:Int}{x':FS}(hh:Held W sh)(hn:(p::sh.blocks).Nodup)(hp:p<W.heap.size)
 (hs2:W.heap.size≤W2.heap.size) (h2:∀k,k<W.heap.size→(∀y,fsGet sh.F a n=some y→k≠y.g)→W2.heap[k]?=W.heap[k]?) (hos:W2.os=W.os) (htp:W2.tape=W.tape) (hou:W2.output=W.output)
 (hx:x'.ok W2) (hg:(∃y,fsGet sh.F a n=some y∧x'.g=y.g)∨W.heap.size≤x'.g) (hput:PutPost fsV a n x' sh.fb sh.F W2 W3):
 ∃nb,Held W3 { sh with F:=putM a n x' nb sh.F }∧(p::Sh.blocks { sh with F:=putM a n x' nb sh.F }).Nodup∧(∀b∈p::Sh.blocks { sh with F:=putM a n x' nb sh.F },b∈p::sh.blocks∨W.heap.size≤b)∧Only (p::sh.blocks) W W3∧W3.heap[p]?=W.heap[p]?:=by
 obtain⟨nb,⟨t1,t2,t3⟩,hnb,hnb',hos3,htp3,hou3,hs3,h3⟩:=hput;have hn0:=hn;simp only[Sh.blocks,List.nodup_cons,List.mem_cons,List.mem_append,not_or,List.nodup_append]at hn;obtain⟨⟨p1,p2,p3,p4⟩,⟨l1,l2,l3⟩,⟨f1,f2⟩,nl,nf,nlf⟩:=hn;obtain⟨u1,u2,u3⟩:=flat_nodup nf;have hy:∀y,fsGet sh.F a n=some y→∃q∈sh.F,q.1=a∧(n,y)∈q.2.2:=fun y hy=>by
  obtain⟨z,hz,hw⟩:=Option.bind_eq_some_iff.1 hy;exact⟨_,mem_keys_of_mget hz,rfl,mem_keys_of_mget hw⟩
 have hyb:∀y,fsGet sh.F a n=some y→y.g∈Sh.fblocks sh.F:=fun y h=>by
  obtain⟨q,hq,_,hs⟩:=hy y h;exact mem_fblocks2 hq hs
 have hib:∀x,mget a sh.F=some x→x.1∈Sh.fblocks sh.F:=fun x hx=>mem_fblocks (mem_keys_of_mget hx)
 have far:∀k,k<W.heap.size→k≠sh.fb→k∉Sh.fblocks sh.F→W3.heap[k]?=W.heap[k]?:=fun k hk hf hk2=>
  (h3 k (by omega) hf (fun x hx e=>hk2 (e▸hib x hx))).trans (h2 k hk (fun y hy e=>hk2 (e▸hyb y hy)))
 have hlt:=hh.lt;have hkF:∀q∈sh.F,(keys q.2.2).Nodup:=fun q hq=>(hh.hfi q hq).1.nodup
 have hxlt:=hx.lt;refine⟨nb,⟨?_,t1,fun q hq=>?_,fun q hq=>⟨t2 q hq,fun s hs=>?_,?_⟩⟩,?_,?_,?_,far p hp p2 p4⟩
 · exact hh.hl.same (far _ hh.hl.lt l1 l3)
 · obtain⟨k1,k2⟩:=hh.hli q hq
   refine⟨k1.same (far _ k1.lt (fun e=>f1 (e▸mem_lblocks hq)) (fun hm=>nlf _ (mem_lblocks hq) _ hm rfl)),k2⟩
 · rcases mem_putM hh.hf.nodup hkF hq hs with e|⟨q0,hq0,hs0,hne⟩
   · rw[e]
     refine hx.same (h3 _ hxlt ?_ ?_)
     · intro e1
       rcases hg with⟨y,hy1,hy2⟩|hg
       · exact f2 (by rw[←e1,hy2];exact hyb y hy1)
       · have:=hh.hf.lt;omega
     · intro z hz e1
       have hzm:=mem_keys_of_mget hz;rcases hg with⟨y,hy1,hy2⟩|hg
       · obtain⟨q1,hq1,_,hs1⟩:=hy y hy1
         exact u2 _ hzm _ hq1 _ hs1 (by rw[←e1,hy2])
       · have:=(hh.hfi _ hzm).1.lt
         simp only at this;omega
   · have hok:=(hh.hfi q0 hq0).2.1 s hs0
     have hmem:=mem_fblocks2 hq0 hs0;refine(hok.same (h2 _ hok.lt fun y hy1 e1=>?_)).same (h3 _ (by have:=hok.lt;omega) (fun e1=>f2 (e1▸hmem)) (fun z hz e1=>u2 _ (mem_keys_of_mget hz) _ hq0 _ hs0 e1.symm));obtain⟨q1,hq1,ha1,hs1⟩:=hy y hy1;obtain⟨e3,e4⟩:=u1 _ hq0 _ hq1 _ hs0 _ hs1 e1;exact hne ⟨e3▸ha1,by rw[e4]⟩
 · unfold putM at hq
   rcases mem_mput_ne hh.hf.nodup hq with e|⟨hq,_⟩
   · subst e
     cases hm:mget a sh.F with
     |none=>simp
     |some x=>
      intro e;have:=(mput_perm n x' x.2).length_eq;simp only at e;rw[e]at this;simp at this
   · exact(hh.hfi q hq).2.2
 · obtain⟨R,r1,r2⟩:=fblocks_put a n x' nb sh.F
   (have hR:∀b∈R,b∈Sh.fblocks sh.F:=fun b hb=>r1.mem_iff.2 (List.mem_append_right _ hb));have hRn:R.Nodup:=(List.nodup_append.1 (r1.nodup_iff.1 nf)).2.1;have hxR:x'.g∉R:=by
    intro hxR;rcases hg with⟨y,hy1,hy2⟩|hg
    · have:=r1.nodup_iff.1 nf
      rw[hy1]at this;simp only[Option.map_some,Option.toList_some,List.cons_append,List.nil_append,List.nodup_cons]at this;exact this.1 (hy2▸hxR)
    · have:=hlt x'.g (.tail _ (.tail _ (List.mem_append_right _ (hR _ hxR))));omega
   have hxf:x'.g∈Sh.fblocks sh.F∨W.heap.size≤x'.g:=hg.imp (fun⟨y,hy1,hy2⟩=>hy2▸hyb y hy1) id;have hnbx:mget a sh.F=none→x'.g≠nb:=fun hm e=>by
    have:=hnb hm;omega
   have hF':(Sh.fblocks (putM a n x' nb sh.F)).Nodup∧∀b∈Sh.fblocks (putM a n x' nb sh.F),b∈Sh.fblocks sh.F∨W.heap.size≤b:=by
    constructor
    · rw[r2.nodup_iff]
      by_cases hm:mget a sh.F=none
      · rw[if_pos hm]
        simp only[List.cons_append,List.nil_append,List.nodup_cons,List.mem_cons,not_or];refine⟨⟨(hnbx hm).symm,fun hb=>?_⟩,hxR,hRn⟩;have:=hlt nb (.tail _ (.tail _ (List.mem_append_right _ (hR _ hb))));have:=hnb hm;omega
      · rw[if_neg hm]
        simp only[List.nil_append,List.nodup_cons];exact⟨hxR,hRn⟩
    · intro b hb
      rw[r2.mem_iff]at hb;rcases List.mem_append.1 hb with hb|hb
      · by_cases hm:mget a sh.F=none
        · rw[if_pos hm]at hb
          rw[List.mem_singleton.1 hb];right;have:=hnb hm;omega
        · rw[if_neg hm]at hb;cases hb
      · rcases List.mem_cons.1 hb with rfl|hb
        · exact hxf
        · exact .inl (hR _ hb)
   have far2:∀b,b<W.heap.size→b∉Sh.fblocks sh.F→b∉Sh.fblocks (putM a n x' nb sh.F):=fun b hb h1 h2=>by
    rcases hF'.2 b h2 with h|h
    · exact h1 h
    · omega
   simp only[Sh.blocks,List.nodup_cons,List.mem_cons,List.mem_append,not_or,List.nodup_append];exact⟨⟨p1,p2,p3,far2 p hp p4⟩,⟨l1,l2,far2 _ hh.hl.lt l3⟩,⟨f1,far2 _ hh.hf.lt f2⟩,nl,hF'.1,fun x hx y hy e=>by
    obtain⟨q,hq,rfl⟩:=List.mem_map.1 hx;exact far2 _ (hh.hli q hq).1.lt (fun hm=>nlf _ hx _ hm rfl) (e▸hy)⟩
 · obtain⟨R,r1,r2⟩:=fblocks_put a n x' nb sh.F
   (have hR:∀b∈R,b∈Sh.fblocks sh.F:=fun b hb=>r1.mem_iff.2 (List.mem_append_right _ hb));intro b hb;simp only[Sh.blocks,List.mem_cons,List.mem_append]at hb ⊢;rcases hb with hb|hb|hb|hb|hb
   · exact .inl (.inl hb)
   · exact .inl (.inr (.inl hb))
   · exact .inl (.inr (.inr (.inl hb)))
   · exact .inl (.inr (.inr (.inr (.inl hb))))
   · rw[r2.mem_iff]at hb
     rcases List.mem_append.1 hb with hb|hb
     · by_cases hm:mget a sh.F=none
       · rw[if_pos hm]at hb
         rw[List.mem_singleton.1 hb];right;have:=hnb hm;omega
       · rw[if_neg hm]at hb;cases hb
     · rcases List.mem_cons.1 hb with rfl|hb
       · rcases hg with⟨y,hy1,hy2⟩|hg
         · exact .inl (.inr (.inr (.inr (.inr (hy2▸hyb y hy1)))))
         · exact .inr hg
       · exact .inl (.inr (.inr (.inr (.inr (hR _ hb)))))
 · refine⟨hos3.trans hos,htp3.trans htp,hou3.trans hou,by omega,fun k hk hkn=>far k hk (fun e=>hkn (e ▸ .tail _ (.tail _ (.head _)))) (fun hm=>hkn (.tail _ (.tail _ (.tail _ (List.mem_append_right _ hm)))))⟩
end Go.Proofs.YthecngkdmnadoaaGreat

namespace Go.Proofs.YthecngkdmnadoaaGreat
open Go.RowKit
set_option maxRecDepth 100000
def RowX(fp:List Nat)(w:World)(y:Value)(xs:List Nat):Prop:=Row w.heap.size w y xs∧∀b off len cap,y = .slice (some ⟨b,off,none⟩) len cap→0<xs.length→b∉fp
theorem RowX.only{fp:List Nat}{w w':World}{y:Value}{xs:List Nat}(h:RowX fp w y xs)(ho:Only fp w w'):RowX fp w' y xs:=by
 obtain⟨⟨ao,cap,rfl,hcap,hno,hc⟩,hx⟩:=h;refine⟨⟨ao,cap,rfl,hcap,hno,fun h0=>?_⟩,hx⟩;obtain⟨b,off,rfl,hN,hd⟩:=hc h0;refine⟨b,off,rfl,Nat.lt_of_lt_of_le hN ho.size,fun i hi=>?_⟩;rw[World.cell?_of_block (w:=w) (a:=⟨b,off+i,none⟩) (ho.block b hN (hx b off _ _ rfl h0))];exact hd i hi
theorem cur_find{sh:Sh}{S:List Sec}(h:Rep sh S)(a n:Int):(curOf S a n).isSome=(findS a n S).isSome:=by
 rw[curOf];cases hf:findS a n S with
 |none=>rfl
 |some s=>
  simp only[Option.bind_some,Option.isSome_some,Sec.cur];rcases h.there s (findS_mem hf)with h1|h1
  · cases s.fresh.getLast? with
    |some v=>rfl
    |none=>cases hl:s.last with
     |none=>exact absurd hl h1
     |some v=>rfl
  · cases hg:s.fresh.getLast? with
    |some v=>rfl
    |none=>rw[List.getLast?_eq_none_iff]at hg;exact absurd hg h1
theorem DiskAt.cur_find{N:Nat}{w:World}{p:Nat}{d:DS}{fp:List Nat}(h:DiskAt N w p d fp)(a n:Int):(curOf d.secs a n).isSome=(findS a n d.secs).isSome:=by
 obtain⟨sh,_,_,h3,_⟩:=h;exact Go.Proofs.YthecngkdmnadoaaGreat.cur_find h3 a n
theorem DiskAt.cur_len{N:Nat}{w:World}{p:Nat}{d:DS}{fp:List Nat}(h:DiskAt N w p d fp)(a n:Int):((curOf d.secs a n).getD zver).length=64:=by
 obtain⟨sh,_,h2,h3,_⟩:=h;rw[cur_rep h3];cases hg:(fget sh a n).getLast? with
 |some v=>
  show v.length=64;rw[fget_eq]at hg;cases hf:fsGet sh.F a n with
  |none=>rw[hf]at hg;cases hg
  |some x=>
   rw[hf]at hg;obtain⟨y,hy,hz⟩:=Option.bind_eq_some_iff.1 hf;exact((h2.hfi _ (mem_keys_of_mget hy)).2.1 _ (mem_keys_of_mget hz)).2.2.2.1 v (List.mem_of_getLast? hg)
 |none=>
  cases hl:lget sh a n with
  |none=>exact zver_len
  |some v=>
   obtain⟨y,hy,hz⟩:=Option.bind_eq_some_iff.1 hl;exact(h2.hli _ (mem_keys_of_mget hy)).2.1 _ (mem_keys_of_mget hz)
def formBad(n:Int)(xs:List Nat):Prop:=n<0∨65536≤n∨64<xs.length
instance (n:Int)(xs:List Nat):Decidable (formBad n xs):=by unfold formBad;exact inferInstance
def fullBad(d:DS)(a n:Int):Prop:=(findS a n d.secs).isSome=false∧d.room=d.secs.length
instance (d:DS)(a n:Int):Decidable (fullBad d a n):=by unfold fullBad;exact inferInstance
def wrE(d:DS)(a n:Int)(xs:List Nat):Int:=if d.dead then 30 else if formBad n xs then 31 else if fullBad d a n then 32 else stepE d
def wrD(d:DS)(a n:Int)(xs:List Nat):DS:=if d.dead then d else if formBad n xs then d else if fullBad d a n then d else { stepD d with secs:=wr a n (pad xs) d.secs }
def WriteSays(N:Nat)(p:Nat)(d:DS)(fp:List Nat)(a n:Int)(xs:List Nat)(w:World)(e:Ending)(w':World):Prop:=
 e = .returned (.int .i64 (wrE d a n xs))∧∃fp',DiskAt (N+1) w' p (wrD d a n xs) fp'∧Only fp w w'∧∀b∈fp',b∈fp∨w.heap.size≤b
set_option maxHeartbeats 2000000 in
theorem Write_dead(N:Nat)(p:Nat)(d:DS)(fp:List Nat)(a n:Int)(y:Value)(xs:List Nat)(w:World)(h:DiskAt N w p d fp)(hd:d.dead=true):
 Calls Tryz.prog 25 #[.pointer (some ⟨p,0,none⟩),.int .u64 a,.int .i64 n,y] w (WriteSays N p d fp a n xs w):=by
 have HD:Hid (DiskAt N w p d fp):=h;have HX:Hid (d.dead=true):=hd;obtain⟨lb,fb,hb⟩:=h.cells;obtain⟨c0,c1,c2,c3,c4,c5,c6,c7,hz⟩:=disk_cells hb;rw[hd]at c3;clear hb h hd;go_enter Tryz.func25,Tryz.ntmps25;go_wp2_with fail;go_ret;exact⟨by rw[wrE,if_pos HX.out];rfl,fp,by rw[wrD,if_pos HX.out];exact HD.out.mono (by omega),Only.refl _ _,fun b hb => .inl hb⟩
set_option maxHeartbeats 2000000 in
theorem Write_form(N:Nat)(p:Nat)(d:DS)(fp:List Nat)(a n:Int)(y:Value)(xs:List Nat)(w:World)(h:DiskAt N w p d fp)(hr:RowX fp w y xs)(hd:d.dead=false)(hf:formBad n xs)(hl:xs.length≤9223372036854775807):
 Calls Tryz.prog 25 #[.pointer (some ⟨p,0,none⟩),.int .u64 a,.int .i64 n,y] w (WriteSays N p d fp a n xs w):=by
 have HD:Hid (DiskAt N w p d fp):=h;have HX:Hid (¬d.dead=true):=fun e=>by rw[hd]at e;cases e
 have HF:Hid (formBad n xs):=hf;obtain⟨lb,fb,hb⟩:=h.cells;obtain⟨c0,c1,c2,c3,c4,c5,c6,c7,hz⟩:=disk_cells hb;obtain⟨ao,cap,rfl,hcap⟩:=hr.1.shape;rw[hd]at c3;clear hb h hd hr;unfold formBad at hf;by_cases h1:n<0
 · clear hf
   go_enter Tryz.func25,Tryz.ntmps25;go_wp2_with fail;go_ret;exact⟨by rw[wrE,if_neg HX.out,if_pos HF.out];rfl,fp,by rw[wrD,if_neg HX.out,if_pos HF.out];exact HD.out.mono (by omega),Only.refl _ _,fun b hb => .inl hb⟩
 · by_cases h2:65536≤n
   · clear hf
     go_enter Tryz.func25,Tryz.ntmps25;go_wp2_with fail;go_ret;exact⟨by rw[wrE,if_neg HX.out,if_pos HF.out];rfl,fp,by rw[wrD,if_neg HX.out,if_pos HF.out];exact HD.out.mono (by omega),Only.refl _ _,fun b hb => .inl hb⟩
   · have h3:(64:Int)<(xs.length:Int):=by omega
     clear hf;go_enter Tryz.func25,Tryz.ntmps25;go_wp2_with fail;go_ret;exact⟨by rw[wrE,if_neg HX.out,if_pos HF.out];rfl,fp,by rw[wrD,if_neg HX.out,if_pos HF.out];exact HD.out.mono (by omega),Only.refl _ _,fun b hb => .inl hb⟩
end Go.Proofs.YthecngkdmnadoaaGreat

namespace Go.Proofs.YthecngkdmnadoaaGreat
open Go.RowKit
set_option maxRecDepth 100000
def fsVs(sh:Sh)(a n:Int):List (List Nat):=fget sh a n
theorem fs_row{W:World}{sh:Sh}(hh:Held W sh)(a n:Int):W.ownsRow 0 93 64 (fsAt sh a n) (fget sh a n).length (flat (fget sh a n))∧(∀v∈fget sh a n,v.length=64)∧(fsAt sh a n).ownBlock=(fsGet sh.F a n).map FS.g:=by
 unfold fsAt fget fsGet;cases hx:(mget a sh.F).bind fun x=>mget n x.2 with
 |none=>exact⟨World.ownsRow_nil _ _ _ _,fun v hv=>(by cases hv),rfl⟩
 |some x=>
  obtain⟨y,hy,hz⟩:=Option.bind_eq_some_iff.1 hx;have hok:=(hh.hfi _ (mem_keys_of_mget hy)).2.1 _ (mem_keys_of_mget hz);exact⟨hok.row,hok.2.2.2.1,rfl⟩
theorem flat_snoc(vs:List (List Nat))(v:List Nat):flat (vs++[v])=flat vs++v.map bv:=by simp[flat]
theorem fs_of_row{W:World}{v':Value}{vs:List (List Nat)}{ver:List Nat}(h:W.ownsRow 0 93 64 v' (vs.length+1) (flat vs++ver.map bv))(hne:v' ≠ .slice none 0 0)(h1:∀v∈vs,v.length=64)(h2:ver.length=64):
 ∃x':FS,v'=fsV x'∧x'.vs=vs++[ver]∧x'.ok W:=by
 obtain⟨hl,⟨e,_⟩|⟨g,cap,cur,rfl,_,hb,k1,k2,k3,k4⟩⟩:=h
 · exact absurd e hne
 · refine⟨⟨g,cap,vs++[ver]⟩,by simp[fsV],rfl,⟨cur,hb,k3,?_⟩,by simpa using k1,k2,?_,by simp⟩
   · rw[flat_snoc,←k4];simp
   · intro v hv
     rcases List.mem_append.1 hv with hv|hv
     · exact h1 v hv
     · rw[List.mem_singleton.1 hv];exact h2
theorem two_of_held{p:Nat}{sh:Sh}{W W2:World}{a n:Int}(hh:Held W sh)(hn:(p::sh.blocks).Nodup)(h2:∀k,k<W.heap.size→(∀y,fsGet sh.F a n=some y→k≠y.g)→W2.heap[k]?=W.heap[k]?):Two fsV W2 sh.fb sh.F:=by
 simp only[Sh.blocks,List.nodup_cons,List.mem_cons,List.mem_append,not_or,List.nodup_append]at hn;obtain⟨_,_,⟨f1,f2⟩,nl,nf,nlf⟩:=hn;obtain⟨u1,u2,u3⟩:=flat_nodup nf;have hy:∀y,fsGet sh.F a n=some y→∃q∈sh.F,(n,y)∈q.2.2:=fun y hy=>by
  obtain⟨z,hz,hw⟩:=Option.bind_eq_some_iff.1 hy;exact⟨_,mem_keys_of_mget hz,mem_keys_of_mget hw⟩
 refine⟨hh.hf.same (h2 _ hh.hf.lt fun y h e=>?_),fun q hq=>(hh.hfi q hq).1.same (h2 _ (hh.hfi q hq).1.lt fun y h e=>?_),List.nodup_cons.2 ⟨fun hm=>?_,?_⟩⟩
 · obtain⟨q,hq,hs⟩:=hy y h
   exact f2 (e▸mem_fblocks2 hq hs)
 · obtain⟨q1,hq1,hs1⟩:=hy y h
   exact u2 q hq q1 hq1 _ hs1 e
 · obtain⟨q,hq,e⟩:=List.mem_map.1 hm
   exact f2 (e▸mem_fblocks hq)
 · have:∀F:List (Int×Nat×List (Int×FS)),(Sh.fblocks F).Nodup→(F.map (·.2.1)).Nodup:=by
    intro F
    induction F with
    |nil=>intro _;simp
    |cons x r ih=>
     intro h;have h':((x.2.1::x.2.2.map (·.2.g))++Sh.fblocks r).Nodup:=h;rw[List.nodup_append]at h';refine List.nodup_cons.2 ⟨fun hm=>?_,ih h'.2.1⟩;obtain⟨q,hq,e⟩:=List.mem_map.1 hm;exact h'.2.2 _ (.head _) _ (mem_fblocks hq) e.symm
   exact this _ nf
theorem disk_write{N:Nat}{p:Nat}{sh:Sh}{W W2 W3:World}{d1:DS}{a n:Int}{xs:List Nat}{x':FS}(hh:Held W sh)(hrep:Rep sh d1.secs)(hn:(p::sh.blocks).Nodup)
 (hp:W.heap[p]?=some (dC d1.room ((wr a n (pad xs) d1.secs).length:Int) d1.steps d1.dead d1.armed d1.ahead sh.lb sh.fb))
 (b1:0≤d1.room) (b2:d1.room≤9223372036854775807) (b3:0≤d1.steps) (b4:d1.steps≤(N+1:Nat)) (b5:d1.secs.length≤N) (b6:((wr a n (pad xs) d1.secs).length:Int)≤d1.room) (b7:∀s∈d1.secs,s.fresh.length≤N) (b8 : -9223372036854775808≤d1.ahead) (b9:d1.ahead≤9223372036854775807) (b10:d1.armed=true→0≤d1.ahead)
 (hs2:W.heap.size≤W2.heap.size) (h2:∀k,k<W.heap.size→(∀y,fsGet sh.F a n=some y→k≠y.g)→W2.heap[k]?=W.heap[k]?) (hos:W2.os=W.os) (htp:W2.tape=W.tape) (hou:W2.output=W.output)
 (hx:x'.ok W2) (hxv:x'.vs=fget sh a n++[pad xs]) (hg:(∃y,fsGet sh.F a n=some y∧x'.g=y.g)∨W.heap.size≤x'.g) (hput:PutPost fsV a n x' sh.fb sh.F W2 W3):
 ∃fp',DiskAt (N+1) W3 p { d1 with secs:=wr a n (pad xs) d1.secs } fp'∧Only (p::sh.blocks) W W3∧∀b∈fp',b∈p::sh.blocks∨W.heap.size≤b:=by
 obtain⟨nb,k1,k2,k3,k4,k5⟩:=held_write hh hn (Array.getElem?_eq_some_iff.1 hp).1 hs2 h2 hos htp hou hx hg hput;refine⟨_,⟨{ sh with F:=putM a n x' nb sh.F },k5.trans hp,k1,rep_write hrep a n (pad xs) x' nb hxv,rfl,k2,b1,b2,b3,b4,?_,b6,wr_fresh_le b7,b8,b9,b10⟩,k4,k3⟩;show(wr a n (pad xs) d1.secs).length≤N+1;rw[wr_len hrep.sorted]
 split<;>omega
theorem app_facts{p vb:Nat}{sh:Sh}{W W2:World}{a n:Int}{o:Obj}{x':FS}(hh:Held W sh)(hn:(p::sh.blocks).Nodup)(hp:p<W.heap.size)(hvb:vb<W.heap.size)(hvn:vb∉p::sh.blocks)
 (hgrow:(W.drew.alloc o).grownBy W2 (fsAt sh a n).ownBlock) (hloc:(fsV x').ownBlock=(fsAt sh a n).ownBlock∨(fsV x').ownBlock=some (W.drew.alloc o).heap.size):
 W.heap.size≤W2.heap.size∧(∀k,k<W.heap.size→(∀y,fsGet sh.F a n=some y→k≠y.g)→W2.heap[k]?=W.heap[k]?)∧(W2.os=W.os∧W2.tape=W.tape∧W2.output=W.output)∧((∃y,fsGet sh.F a n=some y∧x'.g=y.g)∨W.heap.size≤x'.g)∧W2.heap[p]?=W.heap[p]?∧W2.heap[vb]?=W.heap[vb]?:=by
 have hob:=(fs_row hh a n).2.2;have hsz:(W.drew.alloc o).heap.size=W.heap.size+1:=by simp
 have h2:∀k,k<W.heap.size→(∀y,fsGet sh.F a n=some y→k≠y.g)→W2.heap[k]?=W.heap[k]?:=fun k hk hne=>by
  refine(hgrow.block k (by omega) fun e=>?_).trans (alloc_old W.drew o hk);rw[hob]at e;cases hy:fsGet sh.F a n with
  |none=>rw[hy]at e;cases e
  |some y=>rw[hy]at e;exact hne y hy (Option.some.inj e)
 have hyb:∀y,fsGet sh.F a n=some y→y.g∈sh.blocks:=fun y h=>by
  obtain⟨z,hz,hw⟩:=Option.bind_eq_some_iff.1 h;exact .tail _ (.tail _ (List.mem_append_right _ (mem_fblocks2 (mem_keys_of_mget hz) (mem_keys_of_mget hw))))
 refine⟨by have:=hgrow.size;omega,h2,⟨hgrow.os,hgrow.tape,hgrow.output⟩,?_,h2 p hp fun y hy e=>?_,h2 vb hvb fun y hy e=>?_⟩
 · have e1:(fsV x').ownBlock=some x'.g:=rfl
   rw[e1,hob]at hloc;rcases hloc with h|h
   · cases hy:fsGet sh.F a n with
     |none=>rw[hy]at h;cases h
     |some y=>rw[hy]at h;exact .inl ⟨y,rfl,Option.some.inj h⟩
   · right
     have:=Option.some.inj h;omega
 · exact(List.nodup_cons.1 hn).1 (e▸hyb y hy)
 · exact hvn (.tail _ (e▸hyb y hy))
theorem put_far{sh:Sh}{W2 W3:World}{a n:Int}{x':FS}(hput:PutPost fsV a n x' sh.fb sh.F W2 W3){k:Nat}(hk:k<W2.heap.size)(hn:k∉sh.blocks):W3.heap[k]?=W2.heap[k]?:=by
 obtain⟨nb,_,_,_,_,_,_,_,h⟩:=hput;refine h k hk (fun e=>hn (e ▸ .tail _ (.head _))) fun x hx e=>hn (e ▸ .tail _ (.tail _ (List.mem_append_right _ (mem_fblocks (mem_keys_of_mget hx)))))
end Go.Proofs.YthecngkdmnadoaaGreat
