/- Texts that were written apart, joined. -/
import Derived.Test.YthecngkdmnadoaaGreatG03
import Derived.Test.YthecngkdmnadoaaGreatLook
namespace Go.Proofs.YthecngkdmnadoaaGreat
open Go.RowKit
set_option maxRecDepth 100000
theorem before_trans{s t u:Sec}(h:s.before t)(k:t.before u):s.before u:=by
 unfold Sec.before at *;omega
def wr(a n:Int)(v:List Nat):List Sec→List Sec
 |[]=>[⟨a,n,none,[v]⟩]
 |s::r=>if s.area=a∧s.n=n then { s with fresh:=s.fresh++[v] }::r else if a<s.area∨(a=s.area∧n<s.n)then ⟨a,n,none,[v]⟩::s::r else s::wr a n v r
theorem findS_none_of{a n:Int}{S:List Sec}(h:∀s∈S,¬(s.area=a∧s.n=n)):findS a n S=none:=by
 induction S with
 |nil=>rfl
 |cons s r ih=>rw[findS,if_neg (h s (.head _))];exact ih fun t ht=>h t (.tail _ ht)
theorem findS_at{a n:Int}{S:List Sec}{s:Sec}(h:findS a n S=some s):s.area=a∧s.n=n:=by
 induction S with
 |nil=>simp[findS]at h
 |cons t r ih=>
  rw[findS]at h
  split at h
  · rename_i ht;rw[←Option.some.inj h];exact ht
  · exact ih h
theorem findS_self{S:List Sec}(hs:S.Pairwise Sec.before){s:Sec}(h:s∈S):findS s.area s.n S=some s:=by
 induction S with
 |nil=>cases h
 |cons t r ih=>
  obtain⟨h1,h2⟩:=List.pairwise_cons.1 hs;rcases List.mem_cons.1 h with rfl|h
  · rw[findS,if_pos ⟨rfl,rfl⟩]
  · have:=h1 s h
    rw[findS,if_neg (fun e=>by unfold Sec.before at this;omega)];exact ih h2 h
theorem wr_mem{a n:Int}{v:List Nat}{S:List Sec}{t:Sec}(h:t∈wr a n v S):t∈S∨(t.area=a∧t.n=n∧((t.last=none∧t.fresh=[v])∨∃s∈S,t.last=s.last∧t.fresh=s.fresh++[v])):=by
 induction S with
 |nil=>simp[wr]at h;subst h;exact .inr ⟨rfl,rfl,.inl ⟨rfl,rfl⟩⟩
 |cons s r ih=>
  rw[wr]at h
  split at h
  · rename_i he
    rcases List.mem_cons.1 h with rfl|h
    · exact .inr ⟨he.1,he.2,.inr ⟨s,.head _,rfl,rfl⟩⟩
    · exact .inl (.tail _ h)
  · split at h
    · rcases List.mem_cons.1 h with rfl|h
      · exact .inr ⟨rfl,rfl,.inl ⟨rfl,rfl⟩⟩
      · exact .inl h
    · rcases List.mem_cons.1 h with rfl|h
      · exact .inl (.head _)
      · rcases ih h with h|⟨h1,h2,h3|⟨s',hs',h3⟩⟩
        · exact .inl (.tail _ h)
        · exact .inr ⟨h1,h2,.inl h3⟩
        · exact .inr ⟨h1,h2,.inr ⟨s',.tail _ hs',h3⟩⟩
theorem wr_sorted{a n:Int}{v:List Nat}{S:List Sec}(hs:S.Pairwise Sec.before):(wr a n v S).Pairwise Sec.before:=by
 induction S with
 |nil=>simp[wr]
 |cons s r ih=>
  obtain⟨h1,h2⟩:=List.pairwise_cons.1 hs;rw[wr]
  split
  · exact List.pairwise_cons.2 ⟨fun t ht=>h1 t ht,h2⟩
  · split
    · rename_i hb
      refine List.pairwise_cons.2 ⟨fun t ht=>?_,hs⟩;have hsb:(⟨a,n,none,[v]⟩:Sec).before s:=hb;rcases List.mem_cons.1 ht with rfl|ht
      · exact hsb
      · exact before_trans hsb (h1 t ht)
    · rename_i hne hnb
      refine List.pairwise_cons.2 ⟨fun t ht=>?_,ih h2⟩;rcases wr_mem ht with ht|⟨e1,e2,_⟩
      · exact h1 t ht
      · unfold Sec.before;omega
def wrS(a n:Int)(v:List Nat)(o:Option Sec):Sec:=match o with|some s=>{ s with fresh:=s.fresh++[v] }|none=>⟨a,n,none,[v]⟩
theorem find_wr{a n:Int}{v:List Nat}{S:List Sec}(hs:S.Pairwise Sec.before)(a' n':Int):findS a' n' (wr a n v S)=if a'=a∧n'=n then some (wrS a n v (findS a n S))else findS a' n' S:=by
 induction S with
 |nil=>
  by_cases h:a'=a∧n'=n
  · rw[if_pos h]
    show(if a=a'∧n=n' then _ else _)=_;rw[if_pos ⟨h.1.symm,h.2.symm⟩];rfl
  · rw[if_neg h]
    show(if a=a'∧n=n' then _ else _)=_;rw[if_neg (fun e=>h ⟨e.1.symm,e.2.symm⟩)]
 |cons s r ih=>
  obtain⟨h1,h2⟩:=List.pairwise_cons.1 hs;rw[wr];by_cases he:s.area=a∧s.n=n
  · rw[if_pos he]
    by_cases h:a'=a∧n'=n
    · rw[if_pos h,findS,if_pos ⟨he.1.trans h.1.symm,he.2.trans h.2.symm⟩,findS,if_pos he];rfl
    · rw[if_neg h,findS,if_neg (fun e=>h ⟨e.1.symm.trans he.1,e.2.symm.trans he.2⟩),findS,if_neg (fun e=>h ⟨e.1.symm.trans he.1,e.2.symm.trans he.2⟩)]
  · rw[if_neg he]
    by_cases hb:a<s.area∨(a=s.area∧n<s.n)
    · rw[if_pos hb]
      have hnone:findS a n (s::r)=none:=by
       (refine findS_none_of fun t ht e=>?_);rcases List.mem_cons.1 ht with rfl|ht
       · exact he e
       · have:=h1 t ht
         unfold Sec.before at this;omega
      rw[hnone];by_cases h:a'=a∧n'=n
      · rw[if_pos h,findS,if_pos ⟨h.1.symm,h.2.symm⟩];rfl
      · rw[if_neg h,findS,if_neg (fun e=>h ⟨e.1.symm,e.2.symm⟩)]
    · rw[if_neg hb]
      (have e2:findS a n (s::r)=findS a n r:=by rw[findS,if_neg he]);rw[e2,findS,ih h2];by_cases h:a'=a∧n'=n
      · rw[if_pos h,if_pos h,if_neg (fun e=>he ⟨e.1.trans h.1,e.2.trans h.2⟩)]
      · rw[if_neg h,if_neg h,findS]
theorem wr_len{a n:Int}{v:List Nat}{S:List Sec}(hs:S.Pairwise Sec.before):(wr a n v S).length=if (findS a n S).isSome then S.length else S.length+1:=by
 induction S with
 |nil=>rfl
 |cons s r ih=>
  obtain⟨h1,h2⟩:=List.pairwise_cons.1 hs;rw[wr];by_cases he:s.area=a∧s.n=n
  · rw[if_pos he,findS,if_pos he];rfl
  · rw[if_neg he,findS,if_neg he]
    by_cases hb:a<s.area∨(a=s.area∧n<s.n)
    · rw[if_pos hb,findS_none_of (fun t ht e=>by have:=h1 t ht;unfold Sec.before at this;omega)];rfl
    · rw[if_neg hb,List.length_cons,ih h2]
      split<;>rfl
def syS(s:Sec):Sec:={ s with last:=s.cur,fresh:=[] }
def sy(a:Int)(S:List Sec):List Sec:=S.map fun s=>if s.area=a then syS s else s
def fr(a:Int)(S:List Sec):List Sec:=S.filter fun s=>s.area≠a
theorem find_sy(a a' n':Int)(S:List Sec):findS a' n' (sy a S)=(findS a' n' S).map fun s=>if s.area=a then syS s else s:=by
 induction S with
 |nil=>rfl
 |cons s r ih=>
  have e:(if s.area=a then syS s else s).area=s.area∧(if s.area=a then syS s else s).n=s.n:=by split<;>exact⟨rfl,rfl⟩
  rw[sy,List.map_cons,findS,findS,e.1,e.2]
  split
  · rfl
  · exact ih
theorem find_fr(a a' n':Int)(S:List Sec):findS a' n' (fr a S)=if a'=a then none else findS a' n' S:=by
 induction S with
 |nil=>simp[fr,findS]
 |cons s r ih=>
  by_cases h:s.area=a
  · rw[fr,List.filter_cons_of_neg (by simpa using h)]
    have ih':findS a' n' (r.filter fun s=>s.area≠a)=_:=ih;rw[ih'];by_cases e:a'=a
    · rw[if_pos e,if_pos e]
    · rw[if_neg e,if_neg e,findS,if_neg (fun e2=>e (e2.1.symm.trans h))]
  · rw[fr,List.filter_cons_of_pos (by simpa using h),findS,findS]
    have ih':findS a' n' (r.filter fun s=>s.area≠a)=_:=ih;rw[ih'];by_cases e:s.area=a'∧s.n=n'
    · rw[if_pos e,if_pos e,if_neg (fun e2=>h (e.1.trans e2))]
    · rw[if_neg e,if_neg e]
theorem sy_sorted{a:Int}{S:List Sec}(hs:S.Pairwise Sec.before):(sy a S).Pairwise Sec.before:=by
 rw[sy,List.pairwise_map];refine hs.imp fun {s t} h=>?_
 unfold Sec.before at *
 split<;>split<;>exact h
theorem fr_sorted{a:Int}{S:List Sec}(hs:S.Pairwise Sec.before):(fr a S).Pairwise Sec.before:=hs.filter _
end Go.Proofs.YthecngkdmnadoaaGreat

namespace Go.Proofs.YthecngkdmnadoaaGreat
open Go.RowKit
set_option maxRecDepth 100000
theorem isAgg_ver(w:World):(isAgg 93).run Tryz.prog w = .ok true w:=by kernel_rfl
theorem run_loadVar_ver(w:World)(b o:Nat)(v:List Nat)(hv:v.length=64)(hr:w.rangeAt b o (v.map bv)):(loadVar 93 ⟨b,o,none⟩).run Tryz.prog w = .ok (verV v) w:=by
 obtain⟨i,hi,hz,hs,hb⟩:=info_parts info_ver;exact run_loadVar_mid w b o _ (v.map bv) _ hr Tryz.underlying93 rfl (by rw[hi];simp[hs,hv])
theorem run_load_ver(w:World)(b o:Nat)(v:List Nat)(hv:v.length=64)(hr:w.rangeAt b o (v.map bv)):(Instr.loadAt 93 (.pointer (some ⟨b,o,none⟩))).run Tryz.prog w = .ok (verV v) w:=by
 simp only[Instr.loadAt,Instr.sureAddr,Sem.run_bind,Sem.run_pure,Result.andThen_ok,run_loadVar_ver w b o v hv hr]
theorem range_block{w:World}{b:Nat}{v:List Nat}{t:TypeId}{f:Nat×Nat}(h:w.heap[b]?=some (.cells (verC v) t f)):w.rangeAt b 0 (v.map bv):=by
 intro j u hj;simp only[World.cell?,h,Nat.zero_add,verC];simpa using hj
theorem run_load_new(w:World)(v:List Nat)(hv:v.length=64)(t:TypeId):(Instr.loadAt 93 (.pointer (some ⟨w.heap.size,0,none⟩))).run Tryz.prog (w.alloc (.cells (verC v) t)) = .ok (verV v) (w.alloc (.cells (verC v) t)):=
 run_load_ver _ _ _ v hv (range_block (alloc_new w _))
theorem run_store_ver2(w:World)(u v:List Nat)(o:Obj)(hu:u.length=64)(hv:v.length=64):
 (Instr.storeAt 93 (.pointer (some ⟨w.heap.size,0,none⟩)) (verV v)).run Tryz.prog ((w.alloc (.cells (verC u) 93)).alloc o) = .ok () ((w.alloc (.cells (verC v) 93)).alloc o):=by
 obtain⟨i,hi,hz,hs,hb⟩:=info_parts info_ver;have hsz:(verC v).size=64:=by rw[verC_size,hv]
 have hz64:(verC u).size=64:=by rw[verC_size,hu]
 have ht:((w.alloc (.cells (verC u) 93)).alloc o).there w.heap.size 0 (verC v).size:=by
  rw[hsz,←hz64];exact World.there_alloc (new_there _ _ _ _ (Nat.le_refl _)) o
 rw[verV,run_storeAt_mid _ _ _ _ (verC v) ht (by rw[hi,hsz];simp[hs]) (verC_one v)];have e:∀(vs:List Value) (C:Array Value) (k:Nat),((w.alloc (.cells C 93)).alloc o).setCells w.heap.size k vs=((w.alloc (.cells C 93)).setCells w.heap.size k vs).alloc o:=by
  intro vs
  induction vs with
  |nil=>intro C k;rfl
  |cons x r ih=>
   intro C k;have e1:((w.alloc (.cells C 93)).alloc o).setCell ⟨w.heap.size,k,none⟩ x=((w.alloc (.cells C 93)).setCell ⟨w.heap.size,k,none⟩ x).alloc o:=World.setCell_alloc_past _ _ _ _ (by simp);rw[World.setCells,World.setCells,e1,setCell_new,ih]
 rw[e,setCells_new,splice_full _ _ (by rw[Array.length_toList,hsz,hz64])]
theorem run_load_over(w:World)(v:List Nat)(hv:v.length=64)(o:Obj):(loadVar 93 ⟨w.heap.size,0,none⟩).run Tryz.prog ((w.alloc (.cells (verC v) 93)).alloc o) = .ok (verV v) ((w.alloc (.cells (verC v) 93)).alloc o):=
 run_loadVar_ver _ _ _ v hv (range_block (by rw[alloc_old _ _ (by simp),alloc_new]))
theorem run_load_one(w:World)(v:List Nat)(hv:v.length=64):(loadVar 93 ⟨w.heap.size,0,none⟩).run Tryz.prog (w.alloc (.cells (verC v) 93)) = .ok (verV v) (w.alloc (.cells (verC v) 93)):=
 run_loadVar_ver _ _ _ v hv (range_block (alloc_new _ _))
def loadV(P:Program)(x:Value)(w:World):Result Value:=(Instr.loadAt 93 x).run P w
def storeV(P:Program)(x y:Value)(w:World):Result Unit:=(Instr.storeAt 93 x y).run P w
theorem exec_alloc_ver(ρ:Operand→Value)(dst:Option Tmp)(ty:TypeId)(pos:String)(af:Array Edge)(g:Option (Nat×Bool))(w:World):
 (execOp ρ ⟨dst,.alloc 93,ty,pos,af,g⟩).run Tryz.prog w = .ok (.value (.pointer (some ⟨w.heap.size,0,none⟩))) (w.alloc (.cells (verC zver) 93)):=by
 simp only[execOp,Sem.run_bind,run_alloc_ver,Sem.run_pure,Result.andThen]
def cellsOf(v:Value):Array Value:=v.cells
theorem exec_box_ver(ρ:Operand→Value)(x:Operand)(dst:Option Tmp)(ty:TypeId)(pos:String)(af:Array Edge)(g:Option (Nat×Bool))(w:World):
 (execOp ρ ⟨dst,.box 93 x,ty,pos,af,g⟩).run Tryz.prog w = .ok (.value (.pointer (some ⟨w.heap.size,0,none⟩))) (w.alloc (.cells (cellsOf (ρ x)) 93)):=by
 simp only[execOp,Sem.run_bind,Instr.box,newVar,newRow];rfl
theorem exec_load_ver(ρ:Operand→Value)(x:Operand)(dst:Option Tmp)(ty:TypeId)(pos:String)(af:Array Edge)(g:Option (Nat×Bool))(w:World):
 (execOp ρ ⟨dst,.load 93 x,ty,pos,af,g⟩).run Tryz.prog w=(loadV Tryz.prog (ρ x) w).andThen (fun v w' => .ok (.value v) w'):=by
 simp only[execOp,Sem.run_bind,loadV,Sem.run_pure]
theorem exec_store_ver(ρ:Operand→Value)(x y:Operand)(dst:Option Tmp)(ty:TypeId)(pos:String)(af:Array Edge)(g:Option (Nat×Bool))(w:World):
 (execOp ρ ⟨dst,.store 93 x y,ty,pos,af,g⟩).run Tryz.prog w=(storeV Tryz.prog (ρ x) (ρ y) w).andThen (fun _ w' => .ok .skip w'):=by
 simp only[execOp,Sem.run_bind,storeV,Sem.run_pure]
theorem verV_cells(v:List Nat):cellsOf (verV v)=verC v:=rfl
theorem storeV_new(w:World)(v:List Nat)(hv:v.length=64):storeV Tryz.prog (.pointer (some ⟨w.heap.size,0,none⟩)) (verV v) (w.alloc (.cells (verC zver) 93)) = .ok () (w.alloc (.cells (verC v) 93)):=run_store_ver w v hv
theorem loadV_new(w:World)(v:List Nat)(hv:v.length=64):loadV Tryz.prog (.pointer (some ⟨w.heap.size,0,none⟩)) (w.alloc (.cells (verC v) 93)) = .ok (verV v) (w.alloc (.cells (verC v) 93)):=run_load_new w v hv _
def curOf(S:List Sec)(a n:Int):Option (List Nat):=(findS a n S).bind Sec.cur
theorem findS_mem{a n:Int}{S:List Sec}{s:Sec}(h:findS a n S=some s):s∈S:=by
 induction S with
 |nil=>simp[findS]at h
 |cons t r ih=>
  rw[findS]at h
  split at h
  · rw[←Option.some.inj h];exact .head _
  · exact .tail _ (ih h)
theorem cur_rep{sh:Sh}{S:List Sec}(h:Rep sh S)(a n:Int):curOf S a n=match (fget sh a n).getLast? with|some v=>some v|none=>lget sh a n:=by
 rw[h.fresh,h.last,curOf];cases findS a n S with
 |none=>rfl
 |some s=>simp only[Option.bind_some,Option.map_some,Option.getD_some,Sec.cur];cases s.fresh.getLast?<;>rfl
theorem flat_get{vs:List (List Nat)}(h:∀v∈vs,v.length=64){k:Nat}(hk:k<vs.length)(j:Nat)(hj:j<64):(flat vs)[k*64+j]?=(vs[k].map bv)[j]?:=by
 induction vs generalizing k with
 |nil=>simp at hk
 |cons v r ih=>
  have hv:=h v (.head _);have hr:=fun x hx=>h x (.tail _ hx)
  cases k with
  |zero=>
   simp only[flat,List.flatMap_cons,Nat.zero_mul,Nat.zero_add,List.getElem_cons_zero];rw[List.getElem?_append_left (by simp[hv,hj])]
  |succ k=>
   (have e:(k+1)*64+j=(v.map bv).length+(k*64+j):=by simp[hv];omega);simp only[flat,List.flatMap_cons,List.getElem_cons_succ];rw[e,List.getElem?_append_right (by omega),Nat.add_sub_cancel_left];exact ih hr (by simpa using hk)
theorem FS.ok.range{w:World}{x:FS}(h:x.ok w){k:Nat}(hk:k<x.vs.length):w.rangeAt x.g (k*64) (x.vs[k].map bv):=by
 obtain⟨⟨cur,hb,hs,ht⟩,h1,h2,h3,_⟩:=h;intro j u hj;have hl:=h3 _ (List.getElem_mem hk);have hj64:j<64:=by
  have:=(List.getElem?_eq_some_iff.1 hj).1;simpa[hl]using this
 simp only[World.cell?,hb];have hlt:k*64+j<x.vs.length*64:=by omega
 have e:(cur.toList.take (x.vs.length*64))[k*64+j]?=(flat x.vs)[k*64+j]?:=by rw[ht]
 rw[List.getElem?_take,if_pos hlt,flat_get h3 hk j hj64,hj]at e;simpa using e
theorem FS.ok.load{w:World}{x:FS}(h:x.ok w){k:Nat}(hk:k<x.vs.length):loadV Tryz.prog (.pointer (some ⟨x.g,k*64,none⟩)) w = .ok (verV x.vs[k]) w:=
 run_load_ver _ _ _ _ (h.2.2.2.1 _ (List.getElem_mem hk)) (h.range hk)
theorem held_new{w:World}{sh:Sh}(h:Held w sh)(o:Obj):Held (w.alloc o) sh:=h.same fun b hb=>alloc_old w o (h.lt b hb)
attribute [local go_sem ↓] exec_alloc_ver exec_box_ver exec_load_ver exec_store_ver
attribute [local go_sem] verV_cells
set_option maxHeartbeats 2000000 in
theorem last_fresh(sh:Sh)(p:Nat)(x:FS)(r t s h:Int)(d ar:Bool)(a n:Int)(w:World)(hb:w.heap[p]?=some (dC r t s d ar h sh.lb sh.fb))(hh:Held w sh)(hx:(mget a sh.F).bind (fun x=>mget n x.2)=some x)(hl:x.vs.length≤1152921504606846976):
 Calls Tryz.prog 50 #[.pointer (some ⟨p,0,none⟩),.int .u64 a,.int .i64 n] w fun e w'=>e = .returned (.tuple #[verV (x.vs.getLastD zver),.bool true])∧Below w.heap.size w w':=by
 have hF:=look_F (held_new hh (.cells (verC zver) 93)) a;have hFi:=look_Fi (held_new hh (.cells (verC zver) 93)) a n;have hfs:fsAt sh a n=fsV x:=by rw[fsAt,hx]
 rw[hfs,fsV]at hFi;clear hfs;have hok:x.ok (w.alloc (.cells (verC zver) 93)):=by
  obtain⟨y,hy,hz⟩:=Option.bind_eq_some_iff.1 hx;exact((held_new hh _).hfi _ (mem_keys_of_mget hy)).2.1 _ (mem_keys_of_mget hz)
 have hne:=hok.2.2.2.2;have hpos:0<x.vs.length:=List.length_pos_iff.2 hne;have hld:=hok.load (k:=x.vs.length-1) (by omega);obtain⟨c0,c1,c2,c3,c4,c5,c6,c7,hz⟩:=disk_cells hb;have hpl:p<w.heap.size:=(Array.getElem?_eq_some_iff.1 hb).1;have hv64:x.vs[x.vs.length-1].length=64:=hok.2.2.2.1 _ (List.getElem_mem _);have hst:=storeV_new w _ hv64;have HL:Hid (x.vs.getLastD zver=x.vs[x.vs.length-1]):=by
  show _=_;rw[List.getLastD_eq_getLast?,List.getLast?_eq_getElem?,List.getElem?_eq_getElem (by omega)];rfl
 have hres:=run_load_one w _ hv64;clear hb hh hx hok hne;generalize atA a sh.F=mv at hF hFi;generalize x.vs[x.vs.length-1]=v at *;go_enter Tryz.func50,Tryz.ntmps50;go_wp2;refine bodyPost_ret (v := .tuple #[verV v,.bool true]) (by simp[results,Tryz.results50,hres,Result.andThen,asAddr]) rfl ⟨by rw[HL.out],(Below.refl _ _).alloc (Nat.le_refl _) _⟩
set_option maxHeartbeats 2000000 in
theorem last_lasting(sh:Sh)(p:Nat)(r t s h:Int)(d ar:Bool)(a n:Int)(w:World)(hb:w.heap[p]?=some (dC r t s d ar h sh.lb sh.fb))(hh:Held w sh)(hx:(mget a sh.F).bind (fun x=>mget n x.2)=none):
 Calls Tryz.prog 50 #[.pointer (some ⟨p,0,none⟩),.int .u64 a,.int .i64 n] w fun e w'=>e = .returned (.tuple #[verV ((lget sh a n).getD zver),.bool (lget sh a n).isSome])∧Below w.heap.size w w':=by
 have hF:=look_F (held_new hh (.cells (verC zver) 93)) a;have hFi:=look_Fi (held_new hh (.cells (verC zver) 93)) a n;have hL:=look_L (held_new hh (.cells (verC zver) 93)) a;have hLi:=look_Li (held_new hh (.cells (verC zver) 93)) a n;have hfs:fsAt sh a n = .slice none 0 0:=by rw[fsAt,hx]
 rw[hfs]at hFi;clear hfs;have hlen:((lget sh a n).getD zver).length=64:=by
  cases hg:lget sh a n with
  |none=>exact zver_len
  |some v=>
   obtain⟨y,hy,hz⟩:=Option.bind_eq_some_iff.1 hg;exact(hh.hli _ (mem_keys_of_mget hy)).2.1 _ (mem_keys_of_mget hz)
 have hlt:lastT sh a n = .tuple #[verV ((lget sh a n).getD zver),.bool (lget sh a n).isSome]:=by
  rw[lastT];cases lget sh a n<;>rfl
 rw[hlt]at hLi;clear hlt;obtain⟨c0,c1,c2,c3,c4,c5,c6,c7,hz⟩:=disk_cells hb;have hpl:p<w.heap.size:=(Array.getElem?_eq_some_iff.1 hb).1;clear hb hh hx;generalize (lget sh a n).getD zver=v at *;generalize (lget sh a n).isSome=b at *;have hst:=storeV_new (w.alloc (.cells (verC zver) 93)) v hlen;have hl1:=loadV_new (w.alloc (.cells (verC zver) 93)) v hlen;have hs2:storeV Tryz.prog (.pointer (some ⟨w.heap.size,0,none⟩)) (verV v) ((w.alloc (.cells (verC zver) 93)).alloc (.cells (verC v) 93)) = .ok () ((w.alloc (.cells (verC v) 93)).alloc (.cells (verC v) 93)):=run_store_ver2 w zver v _ zver_len hlen;have hres:=run_load_over w v hlen (.cells (verC v) 93);rw[alloc_size]at hst hl1;generalize atA a sh.F=mv at hF hFi;generalize atA a sh.L=ml at hL hLi;go_enter Tryz.func50,Tryz.ntmps50;go_wp2;refine bodyPost_ret (v := .tuple #[verV v,.bool b]) (by simp[results,Tryz.results50,hres,Result.andThen,asAddr]) rfl ⟨rfl,((Below.refl _ _).alloc (Nat.le_refl _) _).alloc (by simp) _⟩
theorem last_any(N:Nat)(p:Nat)(d:DS)(fp:List Nat)(a n:Int)(w:World)(h:DiskAt N w p d fp)(hN:N<1152921504606846976):
 Calls Tryz.prog 50 #[.pointer (some ⟨p,0,none⟩),.int .u64 a,.int .i64 n] w fun e w'=>e = .returned (.tuple #[verV ((curOf d.secs a n).getD zver),.bool (curOf d.secs a n).isSome])∧Below w.heap.size w w':=by
 obtain⟨sh,h1,h2,h3,_,_,_,_,_,_,_,_,h12,_⟩:=h;rw[cur_rep h3];have hfr:=h3.fresh a n;cases hx:(mget a sh.F).bind (fun x=>mget n x.2)with
 |none=>
  have e:fget sh a n=[]:=by rw[fget,hx]
  rw[e];exact last_lasting sh p _ _ _ _ _ _ a n w h1 h2 hx
 |some x=>
  have e:fget sh a n=x.vs:=by rw[fget,hx]
  obtain⟨y,hy,hz⟩:=Option.bind_eq_some_iff.1 hx;have hok:=(h2.hfi _ (mem_keys_of_mget hy)).2.1 _ (mem_keys_of_mget hz);have hpos:0<x.vs.length:=List.length_pos_iff.2 hok.2.2.2.2;have hxl:x.vs.length≤N:=by
   rw[e]at hfr;cases hf:findS a n d.secs with
   |none=>rw[hf]at hfr;rw[hfr]at hpos;simp at hpos
   |some s=>
    rw[hf]at hfr;rw[hfr];exact h12 s (findS_mem hf)
  refine(last_fresh sh p x _ _ _ _ _ _ a n w h1 h2 hx (by omega)).mono ?_;rintro e' w' ⟨rfl,hb⟩;refine⟨?_,hb⟩;rw[e];have hg:x.vs.getLast?=some (x.vs.getLastD zver):=by
   rw[List.getLastD_eq_getLast?];cases hq:x.vs.getLast? with
   |none=>rw[List.getLast?_eq_none_iff]at hq;rw[hq]at hpos;simp at hpos
   |some v=>rfl
  rw[hg];rfl
end Go.Proofs.YthecngkdmnadoaaGreat

namespace Go.Proofs.YthecngkdmnadoaaGreat
open Go.RowKit
set_option maxRecDepth 100000
theorem MapAt.conv{α β:Type}{q:IntKind}{f:α→Value}{g:β→Value}{w:World}{b:Nat}{m:List (Int×α)}{m':List (Int×β)}(h:MapAt q f w b m)(e:m'.map (fun p=>(p.1,g p.2))=m.map (fun p=>(p.1,f p.2))):MapAt q g w b m':=by
 obtain⟨es,clock,hb,hm,hn,hs⟩:=h;have ek:keys m'=keys m:=by
  have:=congrArg (List.map (·.1)) e;simpa[keys,List.map_map,Function.comp_def]using this
 refine⟨es,clock,hb,hm.trans ?_,ek▸hn,hs⟩;have:=congrArg (List.map fun p:Int×Value=>(Value.int q p.1,p.2)) e;simpa[List.map_map,Function.comp_def]using this.symm
theorem mput_map{α β:Type}(g:α→β)(k:Int)(u:α)(m:List (Int×α)):(mput k u m).map (fun p=>(p.1,g p.2))=mput k (g u) (m.map (fun p=>(p.1,g p.2))):=by
 induction m with
 |nil=>rfl
 |cons p r ih=>
  by_cases e:p.1=k
  · simp[mput,e]
  · simp[mput,e,ih]
theorem wpList_update{α:Type}{q:IntKind}{f:α→Value}{w:World}{b:Nat}{M:List (Int×α)}{ops:Array Oper}{rest:List Oper}{o:Oper}{a:Act}{Q:Exit→Act→World→Prop}
 (h:MapAt q f w b M) (hg:o.guard=none) (m x v:Operand) (t kt et:TypeId) (hop:o.op=Op.mapUpdate t m x v) (ht:Tryz.prog.underlying t=some (.map kt et)) (hk:Tryz.prog.underlying kt=some (.int q)) (k:Int) (u:α)
 (hm:a.eval m = .map (some b)) (hx:a.eval x = .int q k) (hv:a.eval v=f u) (hK:∀w',MapAt q f w' b (mput k u M)→One b w w'→wpList Tryz.prog ops Q rest (a.put o.dst undef) w'):wpList Tryz.prog ops Q (o::rest) a w:=by
 refine wpList_plain hg fun K' hK'=>?_
 obtain⟨w',hrun,r1,r2⟩:=h.store ht hk k u;unfold Oper.wp;simp[execOp,hop,hm,hx,hv,hrun,Result.andThen];exact hK' _ _ (hK w' r1 r2)
section
variable {α:Type}
def putM(a n:Int)(v:α)(nb:Nat)(M:List (Int×Nat×List (Int×α))):List (Int×Nat×List (Int×α)):=
 mput a (match mget a M with|some x=>(x.1,mput n v x.2)|none=>(nb,[(n,v)])) M
def Two(f:α→Value)(w:World)(mb:Nat)(M:List (Int×Nat×List (Int×α))):Prop:=MapAt .u64 inV w mb M∧(∀p∈M,MapAt .i64 f w p.2.1 p.2.2)∧(mb::M.map (·.2.1)).Nodup
def PutPost(f:α→Value)(a n:Int)(v:α)(mb:Nat)(M:List (Int×Nat×List (Int×α)))(w w':World):Prop:=
 ∃nb,Two f w' mb (putM a n v nb M)∧(mget a M=none→w.heap.size≤nb)∧nb<w'.heap.size∧w'.os=w.os∧w'.tape=w.tape∧w'.output=w.output∧w.heap.size≤w'.heap.size ∧
  ∀k,k<w.heap.size→k≠mb→(∀x,mget a M=some x→k≠x.1)→w'.heap[k]?=w.heap[k]?
theorem inner_ne{mb:Nat}{M:List (Int×Nat×List (Int×α))}(hn:(mb::M.map (·.2.1)).Nodup){p:Int×Nat×List (Int×α)}(hp:p∈M):p.2.1≠mb:=fun e=>(List.nodup_cons.1 hn).1 (e▸List.mem_map.2 ⟨p,hp,rfl⟩)
theorem inner_inj{M:List (Int×Nat×List (Int×α))}(hn:(M.map (·.2.1)).Nodup){p p':Int×Nat×List (Int×α)}(hp:p∈M)(hp':p'∈M)(e:p.2.1=p'.2.1):p=p':=by
 induction M with
 |nil=>cases hp
 |cons x r ih=>
  obtain⟨h1,h2⟩:=List.nodup_cons.1 hn;rcases List.mem_cons.1 hp with e1|hp<;>rcases List.mem_cons.1 hp' with e2|hp'
  · rw[e1,e2]
  · exact absurd (List.mem_map.2 ⟨p',hp',by rw[←e,e1]⟩) h1
  · exact absurd (List.mem_map.2 ⟨p,hp,by rw[e,e2]⟩) h1
  · exact ih h2 hp hp'
theorem mput_blocks{a:Int}{x y:Nat×List (Int×α)}{M:List (Int×Nat×List (Int×α))}(h:mget a M=some x)(e:y.1=x.1):(mput a y M).map (·.2.1)=M.map (·.2.1):=by
 induction M with
 |nil=>simp[mget]at h
 |cons p r ih=>
  by_cases hp:p.1=a
  · rw[mget,if_pos hp]at h
    have:=Option.some.inj h;simp[mput,hp,e,←this]
  · rw[mget,if_neg hp]at h
    simp[mput,hp,ih h]
theorem mem_mput_ne{a:Int}{y:α}{M:List (Int×α)}(hn:(keys M).Nodup){p:Int×α}(hp:p∈mput a y M):p=(a,y)∨(p∈M∧p.1≠a):=by
 rcases mem_mput hp with h|h
 · exact .inl h
 · by_cases e:p.1=a
   · have h1:=mget_of_mem (nodup_mput (k:=a) (v:=y) hn) hp
     rw[mget_mput,if_pos e]at h1;exact .inl (Prod.ext e (Option.some.inj h1).symm)
   · exact .inr ⟨h,e⟩
theorem put_there{f:α→Value}{a n:Int}{v:α}{mb:Nat}{M:List (Int×Nat×List (Int×α))}{w w0 w':World}{x:Nat×List (Int×α)}(h:Two f w mb M)(hx:mget a M=some x)(h0:Below w.heap.size w w0)(hi:MapAt .i64 f w' x.1 (mput n v x.2))(ho:One x.1 w0 w'):PutPost f a n v mb M w w':=by
 obtain⟨h1,h2,h3⟩:=h;have hm:=mem_keys_of_mget hx;have hlt:=h1.lt;have e:∀k,k<w.heap.size→k≠x.1→w'.heap[k]?=w.heap[k]?:=fun k hk hne=>(ho.block k hne).trans (h0.block k hk)
 refine⟨0,⟨?_,fun p hp=>?_,?_⟩,(fun h=>by rw[h]at hx;cases hx),?_,ho.os.trans h0.os,ho.tape.trans h0.tape,ho.output.trans h0.output,by rw[ho.size];exact h0.size,fun k hk _ hne=>e k hk (hne x hx)⟩
 · refine(h1.same (e mb hlt (inner_ne h3 hm).symm)).conv ?_
   rw[putM,hx,mput_map];show mput a (inV x) _=_;clear h2 h3 hm e h1
   induction M with
   |nil=>simp[mget]at hx
   |cons p r ih=>
    by_cases hp:p.1=a
    · rw[mget,if_pos hp]at hx
      have:=Option.some.inj hx;simp[mput,hp,←this]
    · rw[mget,if_neg hp]at hx
      simp[mput,hp,ih hx]
 · rw[putM,hx]at hp
   rcases mem_mput_ne h1.nodup hp with rfl|⟨hp,hne⟩
   · exact hi
   · refine(h2 p hp).same (e _ (h2 p hp).lt fun e1=>hne ?_)
     have:=inner_inj (List.nodup_cons.1 h3).2 hp hm e1;rw[this]
 · rw[putM,hx]
   show(mb::(mput a (x.1,mput n v x.2) M).map (·.2.1)).Nodup;rw[mput_blocks (y:=(x.1,mput n v x.2)) hx rfl];exact h3
 · have:=h0.size
   have:=ho.size;omega
theorem put_new{f:α→Value}{a n:Int}{v:α}{mb:Nat}{M:List (Int×Nat×List (Int×α))}{w w0 w1 w':World}{nb:Nat}(h:Two f w mb M)(hx:mget a M=none)(h0:Below w.heap.size w w0)(hnb:w.heap.size≤nb)(hnb':nb<w0.heap.size)
 (h1:MapAt .u64 inV w1 mb (mput a (nb,([]:List (Int×α))) M)) (ho1:One mb w0 w1) (hi:MapAt .i64 f w' nb [(n,v)]) (ho:One nb w1 w'):PutPost f a n v mb M w w':=by
 obtain⟨k1,k2,k3⟩:=h;have hlt:=k1.lt;have e:∀k,k<w.heap.size→k≠mb→w'.heap[k]?=w.heap[k]?:=fun k hk hne=>(ho.block k (by omega)).trans ((ho1.block k hne).trans (h0.block k hk))
 have hs:=h0.size;have hs1:=ho1.size;have hs2:=ho.size;refine⟨nb,⟨?_,fun p hp=>?_,?_⟩,fun _=>hnb,by omega,ho.os.trans (ho1.os.trans h0.os),ho.tape.trans (ho1.tape.trans h0.tape),ho.output.trans (ho1.output.trans h0.output),by omega,fun k hk hne _=>e k hk hne⟩
 · refine(h1.same (ho.block mb (by omega))).conv ?_
   rw[putM,hx,mput_map,mput_map];rfl
 · rw[putM,hx]at hp
   rcases mem_mput_ne k1.nodup hp with rfl|⟨hp,hne⟩
   · exact hi
   · exact(k2 p hp).same (e _ (k2 p hp).lt (inner_ne k3 hp))
 · rw[putM,hx,mput_of_not_mem (mget_none.1 hx)]
   simp only[List.map_append,List.map_cons,List.map_nil];rw[←List.cons_append,List.nodup_append];refine⟨k3,by simp,fun x hx y hy=>?_⟩;simp only[List.mem_singleton]at hy;subst hy;have:x<w.heap.size:=by
    rcases List.mem_cons.1 hx with rfl|hx
    · exact hlt
    · obtain⟨p,hp,rfl⟩:=List.mem_map.1 hx
      exact(k2 p hp).lt
   omega
end
theorem look_M{α:Type}{w:World}{mb:Nat}{M:List (Int×Nat×List (Int×α))}(h:MapAt .u64 inV w mb M){t et:TypeId}(ht:Tryz.prog.underlying t=some (.map 22 et))(hz:(zeroValue et).run Tryz.prog w = .ok (.map none) w)(a:Int):
 (Instr.lookup t (.map (some mb)) (.int .u64 a) false).run Tryz.prog w = .ok (atA a M) w:=by
 rw[h.look false ht Tryz.underlying22 hz a];unfold atA;cases mget a M<;>rfl
theorem eql_nil_F(w:World):(binOp .eql 88 (.map none) (.map none)).run Tryz.prog w = .ok (.bool true) w:=by kernel_rfl
theorem eql_some_F(w:World)(b:Nat):(binOp .eql 88 (.map (some b)) (.map none)).run Tryz.prog w = .ok (.bool false) w:=by kernel_rfl
theorem eql_nil_L(w:World):(binOp .eql 94 (.map none) (.map none)).run Tryz.prog w = .ok (.bool true) w:=by kernel_rfl
theorem eql_some_L(w:World)(b:Nat):(binOp .eql 94 (.map (some b)) (.map none)).run Tryz.prog w = .ok (.bool false) w:=by kernel_rfl
attribute [local go_sem] eql_nil_F eql_some_F eql_nil_L eql_some_L
set_option maxHeartbeats 2000000 in
theorem putF_any(mb:Nat)(M:List (Int×Nat×List (Int×FS)))(a n:Int)(v:FS)(w:World)(h:Two fsV w mb M):
 Calls Tryz.prog 53 #[.map (some mb),.int .u64 a,.int .i64 n,fsV v] w fun e w'=>e = .returned (.tuple #[])∧PutPost fsV a n v mb M w w':=by
 have H:Hid (Two fsV w mb M):=h;have hl:=look_M h.1 Tryz.underlying71 (zero_fin w) a;have hmm:=@run_makeMap Tryz.prog;generalize hv:fsV v=vv;have HV:Hid (fsV v=vv):=hv;clear hv;cases hx:mget a M with
 |some x=>
  have HX:Hid (mget a M=some x):=hx;rw[atA,hx]at hl;clear h hx;go_enter Tryz.func53,Tryz.ntmps53;go_wp2_with (at_mapUpdate;refine wpList_update (H.out.2.1 _ (mem_keys_of_mget HX.out)) rfl _ _ _ _ _ _ rfl Tryz.underlying88 Tryz.underlying3 n v rfl rfl HV.out.symm ?_);intro w' hi ho;go_wp2
  go_end0
  exact⟨rfl,put_there H.out HX.out (Below.refl _ _) hi ho⟩
 |none=>
  have HX:Hid (mget a M=none):=hx;rw[atA,hx]at hl;have HA:Hid (MapAt .u64 inV (w.alloc (.map #[] 0)) mb M):=h.1.same (alloc_old _ _ h.1.lt);clear h hx;go_enter Tryz.func53,Tryz.ntmps53;go_wp2_with (at_mapUpdate;refine wpList_update HA.out rfl _ _ _ _ _ _ rfl Tryz.underlying71 Tryz.underlying22 a (w.heap.size,([]:List (Int×FS))) rfl rfl rfl ?_);intro w1 h1 ho1;have hl1:=look_M h1 Tryz.underlying71 (zero_fin w1) a;rw[atA,mget_mput,if_pos rfl]at hl1;have HI:Hid (MapAt .i64 fsV w1 w.heap.size ([]:List (Int×FS))):=by
   refine(MapAt.new .i64 fsV w).same (ho1.block _ ?_);have:=H.out.1.lt;omega
  have H1:Hid (MapAt .u64 inV w1 mb (mput a (w.heap.size,([]:List (Int×FS))) M)):=h1;have HO:Hid (One mb (w.alloc (.map #[] 0)) w1):=ho1;clear h1 ho1;go_wp2_with (at_mapUpdate;refine wpList_update HI.out rfl _ _ _ _ _ _ rfl Tryz.underlying88 Tryz.underlying3 n v rfl rfl HV.out.symm ?_);intro w' hi ho;go_wp2
  go_end0
  exact⟨rfl,put_new H.out HX.out ((Below.refl _ _).alloc (Nat.le_refl _) _) (Nat.le_refl _) (by simp) H1.out HO.out hi ho⟩
attribute [local go_sem ↓] exec_box_ver exec_load_ver
attribute [local go_sem] verV_cells
set_option maxHeartbeats 2000000 in
theorem putL_any(mb:Nat)(M:List (Int×Nat×List (Int×List Nat)))(a n:Int)(v:List Nat)(hv:v.length=64)(w:World)(h:Two verV w mb M):
 Calls Tryz.prog 46 #[.map (some mb),.int .u64 a,.int .i64 n,verV v] w fun e w'=>e = .returned (.tuple #[])∧PutPost verV a n v mb M w w':=by
 have H:Hid (Two verV w mb M):=h;have hmm:=@run_makeMap Tryz.prog;have HA:Hid (MapAt .u64 inV (w.alloc (.cells (verC v) 93)) mb M):=h.1.same (alloc_old _ _ h.1.lt);have hl:=look_M HA.out Tryz.underlying70 (zero_lin _) a;have hB:Hid (Below w.heap.size w (w.alloc (.cells (verC v) 93))):=(Below.refl _ _).alloc (Nat.le_refl _) _;cases hx:mget a M with
 |some x=>
  have HX:Hid (mget a M=some x):=hx;rw[atA,hx]at hl;have hld:=loadV_new w v hv;have HI:Hid (MapAt .i64 verV (w.alloc (.cells (verC v) 93)) x.1 x.2):=(h.2.1 _ (mem_keys_of_mget hx)).same (alloc_old _ _ (h.2.1 _ (mem_keys_of_mget hx)).lt);clear h hx;go_enter Tryz.func46,Tryz.ntmps46;go_wp2_with (at_mapUpdate;refine wpList_update HI.out rfl _ _ _ _ _ _ rfl Tryz.underlying94 Tryz.underlying3 n v rfl rfl rfl ?_);intro w' hi ho;go_wp2
  go_end0
  exact⟨rfl,put_there H.out HX.out hB.out hi ho⟩
 |none=>
  have HX:Hid (mget a M=none):=hx;rw[atA,hx]at hl;have HA2:Hid (MapAt .u64 inV ((w.alloc (.cells (verC v) 93)).alloc (.map #[] 0)) mb M):=HA.out.same (alloc_old _ _ HA.out.lt);clear h hx;go_enter Tryz.func46,Tryz.ntmps46;go_wp2_with (at_mapUpdate;refine wpList_update HA2.out rfl _ _ _ _ _ _ rfl Tryz.underlying70 Tryz.underlying22 a (w.heap.size+1,([]:List (Int×List Nat))) rfl rfl rfl ?_);intro w1 h1 ho1;have hmb:=H.out.1.lt;have hl1:=look_M h1 Tryz.underlying70 (zero_lin w1) a;rw[atA,mget_mput,if_pos rfl]at hl1;have HI:Hid (MapAt .i64 verV w1 (w.heap.size+1) ([]:List (Int×List Nat))):=by
   have:=MapAt.new .i64 verV (w.alloc (.cells (verC v) 93));rw[alloc_size]at this;exact this.same (ho1.block _ (by omega))
  have hld:loadV Tryz.prog (.pointer (some ⟨w.heap.size,0,none⟩)) w1 = .ok (verV v) w1:=by
   refine run_load_ver _ _ _ v hv (range_block (t:=93) (f:=(0,0)) ?_);rw[ho1.block _ (by omega),alloc_old _ _ (by simp),alloc_new]
  have H1:Hid (MapAt .u64 inV w1 mb (mput a (w.heap.size+1,([]:List (Int×List Nat))) M)):=h1;have HO:Hid (One mb ((w.alloc (.cells (verC v) 93)).alloc (.map #[] 0)) w1):=ho1;clear h1 ho1;go_wp2_with (at_mapUpdate;refine wpList_update HI.out rfl _ _ _ _ _ _ rfl Tryz.underlying94 Tryz.underlying3 n v rfl rfl rfl ?_);intro w' hi ho;go_wp2
  go_end0
  exact⟨rfl,put_new H.out HX.out (hB.out.alloc (by simp) _) (by omega) (by simp) H1.out HO.out hi ho⟩
end Go.Proofs.YthecngkdmnadoaaGreat
