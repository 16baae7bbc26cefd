import Derived.Test.YtobjpljdgieklaaGreatDoorJ30
import Derived.Test.YtobjpljdgieklaaGreatDoorJ36
import Derived.Deep.MidRow
import Derived.Stop.BytesEq
import Derived.Handy
import Derived.Test.YtobjpljdgieklaaGreatDoorJ37
set_option maxRecDepth 100000
namespace Go.Proofs.YtobjpljdgieklaaGreatDoor
section
open Go.RowKit Nums Ed Lv
abbrev bv(n:Nat):Value := .int .u8 (n:Int)
def rC(v:List Nat):Array Value:=(v.map bv).toArray
def rV(v:List Nat):Value := .agg (rC v)
theorem zOo(v:List Nat):(rC v).size=v.length:=by simp[rC]
theorem rC_one(v:List Nat):(rC v).all (·.oneCell')=true:=by
 refine all_oneCell_toArray fun x hx=>?_
 obtain⟨y,_,rfl⟩:=List.mem_map.1 hx;rfl
def celV(v:Value):Array Value:=v.cells
theorem zEq(v:List Nat):celV (rV v)=rC v:=rfl
def zeros:List Nat:=List.replicate 25 0
theorem zKc:zeros=mk fun _=>0:=by simp[zeros,mk,List.map_const']
theorem zBe:zeros.length=25:=by simp[zeros]
theorem rC_zeros:rC zeros=Array.replicate 25 (.int .u8 0):=by
 rw[rC,zeros,List.map_replicate,List.toArray_replicate];rfl
theorem zBm(w:World)(o:Obj):(w.alloc o).heap[w.heap.size]?=some o:=(MapKept.heap_alloc w o).1
theorem zB4(w:World)(o:Obj){k:Nat}(h:k<w.heap.size):(w.alloc o).heap[k]?=w.heap[k]?:=(MapKept.heap_alloc w o).2 k h
theorem zA9(w:World)(o:Obj):(w.alloc o).heap.size=w.heap.size+1:=by simp
def RAt(w:World)(b:Nat)(bs:List Nat):Prop:=w.heap[b]?=some (.cells (rC bs) 137 (0,0))
theorem RAt.lt{w:World}{b:Nat}{bs:List Nat}(h:RAt w b bs):b<w.heap.size:=(Array.getElem?_eq_some_iff.1 h).1
theorem RAt.same{w w':World}{b:Nat}{bs:List Nat}(h:RAt w b bs)(e:w'.heap[b]?=w.heap[b]?):RAt w' b bs:=e.trans h
theorem RAt.below{w w':World}{b B:Nat}{bs:List Nat}(h:RAt w b bs)(hB:b<B)(hb:Below B w w'):RAt w' b bs:=(hb.block b hB).trans h
theorem RAt.new(w:World)(bs:List Nat):RAt (w.alloc (.cells (rC bs) 137)) w.heap.size bs:=zBm _ _
theorem RAt.old{w:World}{b:Nat}{bs:List Nat}(h:RAt w b bs)(o:Obj):RAt (w.alloc o) b bs:=(zB4 w o h.lt).trans h
theorem range_rC{w:World}{b:Nat}{v:List Nat}{t:TypeId}{f:Nat×Nat}(h:w.heap[b]?=some (.cells (rC v) t f)):w.rangeAt b 0 (v.map bv):=by
 intro j u hj;simp only[World.cell?,h,Nat.zero_add,rC];simpa using hj
theorem RAt.range{w:World}{b:Nat}{bs:List Nat}(h:RAt w b bs):w.rangeAt b 0 (bs.map bv):=range_rC h
theorem RAt.cell{w:World}{b:Nat}{bs:List Nat}(h:RAt w b bs){i:Nat}(hi:i<bs.length):w.cell? ⟨b,i,none⟩=some (bv (bs.getD i 0)):=by
 have:=h.range i (bv (bs.getD i 0)) (by rw[List.getElem?_map,List.getElem?_eq_getElem hi];simp[List.getD_eq_getElem?_getD,List.getElem?_eq_getElem hi]);simpa using this
theorem RAt.frozen{w:World}{b:Nat}{bs:List Nat}(h:RAt w b bs)(o:Nat):w.frozen? ⟨b,o,none⟩=false:=by
 unfold RAt at h;simp[World.frozen?,h]
theorem RAt.there{w:World}{b:Nat}{bs:List Nat}(h:RAt w b bs)(n:Nat)(hn:n≤bs.length):w.there b 0 n:=fun j hj=>⟨by rw[Nat.zero_add,h.cell (by omega)];rfl,h.frozen _⟩
theorem RAt.set{w:World}{b k x:Nat}{bs:List Nat}(h:RAt w b bs):RAt (w.setCell ⟨b,k,none⟩ (bv x)) b (bs.set k x):=by
 unfold RAt at h ⊢;simp only[World.setCell,Array.getElem?_modify,h];simp[rC,List.map_set]
theorem RAt.off{w:World}{b c k:Nat}{bs:List Nat}{v:Value}(h:RAt w b bs)(hne:b≠c):RAt (w.setCell ⟨c,k,none⟩ v) b bs:=(Below.heap_setCell _ _ _ _ hne).trans h
def spl(C:Array Value):Nat→List Value→Array Value
 |_,[]=>C
 |o,v::r=>spl (C.setIfInBounds o v) (o+1) r
theorem spl_size(vs:List Value):∀(C:Array Value) (o:Nat),(spl C o vs).size=C.size:=by
 induction vs with
 |nil=>intro C o;rfl
 |cons v r ih=>intro C o;rw[spl,ih];simp
theorem spl_get(vs:List Value):∀(C:Array Value) (o i:Nat),i<C.size→(spl C o vs)[i]?=if o≤i∧i<o+vs.length then vs[i-o]? else C[i]?:=by
 induction vs with
 |nil=>intro C o i hi;rw[spl,if_neg];simp
 |cons v r ih=>
  intro C o i hi;rw[spl,ih _ _ _ (by simpa using hi)];by_cases h1:o+1≤i∧i<o+1+r.length
  · rw[if_pos h1,if_pos (by simp;omega)]
    (have e:i-o=(i-(o+1))+1:=by omega);rw[e,List.getElem?_cons_succ]
  · rw[if_neg h1]
    by_cases h2:i=o
    · subst h2
      rw[if_pos (by simp)];simp[hi]
    · rw[if_neg (by simp;omega),Array.getElem?_setIfInBounds_ne (by omega)]
theorem spl_full(C:Array Value)(vs:List Value)(h:vs.length=C.size):spl C 0 vs=vs.toArray:=by
 apply Array.ext_getElem?;intro i;by_cases hi:i<C.size
 · rw[spl_get _ _ _ _ hi,if_pos (by omega)];simp
 · rw[Array.getElem?_eq_none (by rw[spl_size];omega),Array.getElem?_eq_none (by simp;omega)]
structure One(b:Nat)(w w':World):Prop where
 os:w'.os=w.os
 tape:w'.tape=w.tape
 output:w'.output=w.output
 size:w'.heap.size=w.heap.size
 block:∀k,k≠b→w'.heap[k]?=w.heap[k]?
theorem one_set(w:World)(p o:Nat)(v:Value):One p w (w.setCell ⟨p,o,none⟩ v):=⟨rfl,rfl,rfl,by simp[World.setCell],fun k hk=>Below.heap_setCell _ _ _ _ hk⟩
theorem One.trans{p:Nat}{a b c:World}(h:One p a b)(k:One p b c):One p a c:=⟨k.os.trans h.os,k.tape.trans h.tape,k.output.trans h.output,k.size.trans h.size,fun i hi=>(k.block i hi).trans (h.block i hi)⟩
theorem One.below{B p:Nat}{a b c:World}(k:Below B a b)(h:One p b c)(hB:B≤p):Below B a c:=
 k.trans ⟨h.os,h.tape,h.output,Nat.le_of_eq h.size.symm,fun j hj=>h.block j (by omega)⟩
theorem zOf{b:Nat}{t:TypeId}{f:Nat×Nat}(vs:List Value):∀(w:World) (C:Array Value) (o:Nat),w.heap[b]?=some (.cells C t f)→(w.setCells b o vs).heap[b]?=some (.cells (spl C o vs) t f)∧One b w (w.setCells b o vs):=by
 induction vs with
 |nil=>intro w C o h;exact⟨h,⟨rfl,rfl,rfl,rfl,fun _ _=>rfl⟩⟩
 |cons v r ih=>
  intro w C o h;have hs:(w.setCell ⟨b,o,none⟩ v).heap[b]?=some (.cells (C.setIfInBounds o v) t f):=by simp[World.setCell,Array.getElem?_modify,h]
  obtain⟨h1,h2⟩:=ih (w.setCell ⟨b,o,none⟩ v) (C.setIfInBounds o v) (o+1) hs;exact⟨h1,(one_set w b o v).trans h2⟩
def setR(w:World)(b:Nat)(ys:List Nat):World:=w.setCells b 0 (ys.map bv)
theorem RAt.put{w:World}{b:Nat}{bs ys:List Nat}(h:RAt w b bs)(hl:ys.length=bs.length):RAt (setR w b ys) b ys∧One b w (setR w b ys):=by
 obtain⟨h1,h2⟩:=zOf (ys.map bv) w (rC bs) 0 h;rw[spl_full _ _ (by rw[List.length_map,zOo,hl])]at h1;exact⟨h1,h2⟩
theorem zHe:(Tryz.prog.info? 137).map (fun i=>(i.zero,i.size,i.bytes))=some (some (.agg (Array.replicate 25 (.int .u8 0))),25,25):=by kernel_rfl
theorem zero_Row(w:World):(zeroValue 137).run Tryz.prog w = .ok (rV zeros) w:=by
 obtain⟨i,hi,hz,hs,hb⟩:=info_parts zHe;rw[rV,rC_zeros];simp[zeroValue,typeInfo,hi,hz,Result.andThen]
def zGr(P:Program)(x:Value)(w:World):Result Value:=(Instr.loadAt 137 x).run P w
def zJe(P:Program)(x y:Value)(w:World):Result Unit:=(Instr.storeAt 137 x y).run P w
section
variable (ρ:Operand→Value) (x y:Operand) (dst:Option Tmp) (ty:TypeId) (pos:String) (af:Array Edge) (g:Option (Nat×Bool)) (w:World)
theorem zA7:(execOp ρ ⟨dst,.alloc 137,ty,pos,af,g⟩).run Tryz.prog w = .ok (.value (.pointer (some ⟨w.heap.size,0,none⟩))) (w.alloc (.cells (rC zeros) 137)):=by
 simp only[execOp,Sem.run_bind,Instr.alloc,zero_Row,Result.andThen,newVar,newRow];rfl
theorem zCf:(execOp ρ ⟨dst,.box 137 x,ty,pos,af,g⟩).run Tryz.prog w = .ok (.value (.pointer (some ⟨w.heap.size,0,none⟩))) (w.alloc (.cells (celV (ρ x)) 137)):=by
 simp only[execOp,Sem.run_bind,Instr.box,newVar,newRow];rfl
theorem zA0:(execOp ρ ⟨dst,.load 137 x,ty,pos,af,g⟩).run Tryz.prog w=(zGr Tryz.prog (ρ x) w).andThen (fun v w' => .ok (.value v) w'):=by
 simp only[execOp,Sem.run_bind,zGr,Sem.run_pure]
theorem zA6:(execOp ρ ⟨dst,.store 137 x y,ty,pos,af,g⟩).run Tryz.prog w=(zJe Tryz.prog (ρ x) (ρ y) w).andThen (fun _ w' => .ok .skip w'):=by
 simp only[execOp,Sem.run_bind,zJe,Sem.run_pure]
end
theorem zBk{w:World}{b o:Nat}{bs:List Nat}(h:w.rangeAt b o (bs.map bv))(hl:bs.length=25):zGr Tryz.prog (.pointer (some ⟨b,o,none⟩)) w = .ok (rV bs) w:=by
 obtain⟨i,hi,hz,hs,hb⟩:=info_parts zHe;have:=run_loadVar_mid (P:=Tryz.prog) w b o 137 (bs.map bv) _ h Tryz.underlying137 rfl (by rw[hi];simp[hs,hl]);simp only[zGr,Instr.loadAt,Instr.sureAddr,Sem.run_bind,Sem.run_pure,Result.andThen_ok,this];rfl
theorem zCi{w:World}{b:Nat}{bs vs:List Nat}(h:RAt w b bs)(hl:bs.length=25)(hv:vs.length=25):zJe Tryz.prog (.pointer (some ⟨b,0,none⟩)) (rV vs) w = .ok () (setR w b vs):=by
 obtain⟨i,hi,hz,hs,hb⟩:=info_parts zHe;rw[zJe,rV,run_storeAt_mid _ _ _ _ (rC vs) (by rw[zOo];exact h.there _ (by omega)) (by rw[hi,zOo];simp[hs,hv]) (rC_one vs)];simp[setR,rC]
theorem zOm{fn:Func}{R:Ending→World→Prop}{a:Act}{w:World}{b s:Nat}{bs:List Nat}(hf:fn.results=#[.cell s 137])(hs:a.tmps[s]?=some (.pointer (some ⟨b,0,none⟩)))(hl:bs.length=25)(h:RAt w b bs)(hd:a.defers=[])(hR:R (.returned (rV bs)) w):bodyPost Tryz.prog fn R .ret a w:=by
 refine bodyPost_ret ?_ hd hR;obtain⟨i,hi,hz,hz1,hb⟩:=info_parts zHe;have h2:=run_loadVar_mid (P:=Tryz.prog) w b 0 137 (bs.map bv) _ h.range Tryz.underlying137 rfl (by rw[hi];simp[hz1,hl]);simp[results,hf,hs,asAddr];exact h2
theorem zUv{l:List Nat}(h:∀x∈l,x<256):rC l=((l.map UInt8.ofNat).map Extern.Stop.cell).toArray:=by
 unfold rC;congr 1;rw[List.map_map];refine List.map_congr_left fun x hx=>?_
 have hx2:=h x hx;simp[Extern.Stop.cell,Nat.mod_eq_of_lt hx2]
theorem ofNat_inj:∀{l m:List Nat},(∀x∈l,x<256)→(∀x∈m,x<256)→l.map UInt8.ofNat=m.map UInt8.ofNat→l=m
 |[],[],_,_,_=>rfl
 |[],_::_,_,_,h=>by simp at h
 |_::_,[],_,_,h=>by simp at h
 |x::l,y::m,h1,h2,h=>by
  simp only[List.map_cons,List.cons.injEq]at h;have hx:=h1 x (.head _);have hy:=h2 y (.head _);have h3:=congrArg UInt8.toNat h.1;simp[Nat.mod_eq_of_lt hx,Nat.mod_eq_of_lt hy]at h3;rw[h3,ofNat_inj (fun z hz=>h1 z (.tail _ hz)) (fun z hz=>h2 z (.tail _ hz)) h.2]
theorem infoB:(Tryz.prog.info? 5).map (fun i=>(i.zero,i.size,i.bytes))=some (some (.int .u8 0),1,1):=by kernel_rfl
theorem eql_row{bs cs:List Nat}(hb:bs.length=25)(hc:cs.length=25)(h1:∀x∈bs,x<256)(h2:∀x∈cs,x<256)(w:World):
 (binOp .eql 137 (rV bs) (rV cs)).run Tryz.prog w = .ok (.bool (decide (bs=cs))) w:=by
 obtain⟨i0,hi,hz0,hz1,hz2⟩:=info_parts infoB;have hsz:∀w,(sizeOf 5).run Tryz.prog w = .ok 1 w:=fun w=>by simp[sizeOf,typeInfo,hi,hz1,Result.andThen]
 unfold rV;rw[zUv h1,zUv h2,run_eql_bytes w 137 5 25 Tryz.underlying137 Tryz.underlying5 hsz _ _ (by simpa using hb) (by simpa using hc)];congr 2;rw[Bool.eq_iff_iff,beq_iff_eq,decide_eq_true_iff];exact⟨ofNat_inj h1 h2,fun h=>by rw[h]⟩
theorem neq_row{bs cs:List Nat}(hb:bs.length=25)(hc:cs.length=25)(h1:∀x∈bs,x<256)(h2:∀x∈cs,x<256)(w:World):
 (binOp .neq 137 (rV bs) (rV cs)).run Tryz.prog w = .ok (.bool (!decide (bs=cs))) w:=by
 have h:=eql_row hb hc h1 h2 w;unfold rV at h ⊢;rw[run_eql_struct]at h;rw[run_neq_struct];generalize (Op.equalIn 10000 137 (.agg (rC bs)) (.agg (rC cs))).run Tryz.prog w=o at h ⊢;cases o with
 |ok b w1=>
  simp only[Result.andThen_ok,Result.ok.injEq,Value.bool.injEq]at h;obtain⟨rfl,rfl⟩:=h;rfl
 |_=>simp[Result.andThen]at h
theorem zWp(op:BinOp)(x y:Operand)(bs cs:List Nat)(W:World):(eqGuard op 137 x y (rV bs) (rV cs)).run Tryz.prog W = .ok () W:=run_eqGuard_agg W _ _ x y _ _ (by kernel_rfl)
end
section
open Go.RowKit Nums Ed Lv
def levC(v:Value)(bs:List Nat):Array Value:=(v::bs.map bv).toArray
structure LevAt(w:World)(p:Nat)(xs:List Int)(d:Nat):Prop where
 len:xs.length≤24
 few:d≤3
 ex:∃ad cap,w.heap[p]?=some (.cells (levC (.slice ad xs.length cap) (zFa xs.length d)) 178 (0,0))∧RunesAt w.heap.size w (.slice ad xs.length cap) xs
theorem LevAt.below{w w':World}{p:Nat}{xs:List Int}{d:Nat}(h:LevAt w p xs d)(hb:Below w.heap.size w w'):LevAt w' p xs d:=by
 obtain⟨h1,h2,ad,cap,hp,hr⟩:=h;exact⟨h1,h2,ad,cap,(hb.block p (Array.getElem?_eq_some_iff.1 hp).1).trans hp,(hr.below hb).mono hb.size⟩
theorem LevAt.lt{w:World}{p:Nat}{xs:List Int}{d:Nat}(h:LevAt w p xs d):p<w.heap.size:=by
 obtain⟨_,_,ad,cap,hp,_⟩:=h;exact(Array.getElem?_eq_some_iff.1 hp).1
theorem zFr{w:World}{p:Nat}{v:Value}{bs:List Nat}{t:TypeId}{f:Nat×Nat}(h:w.heap[p]?=some (.cells (levC v bs) t f)):w.rangeAt p 1 (bs.map bv):=by
 intro j u hj;simp only[World.cell?,h,levC];simpa[Nat.add_comm]using hj
theorem zQ0{w:World}{p:Nat}{v:Value}{bs:List Nat}{t:TypeId}{f:Nat×Nat}(h:w.heap[p]?=some (.cells (levC v bs) t f)):w.cell? ⟨p,0,none⟩=some v:=by
 simp[World.cell?,h,levC]
theorem zEg(n d:Nat):(zFa n d).length=25:=zCs _
theorem zW9(n d:Nat){j:Nat}(h:j<25):(zFa n d).getD j 0=dd n d j:=zDo _ h
theorem lev_dead{w:World}{p:Nat}{v:Value}{n d:Nat}{t:TypeId}{f:Nat×Nat}(h:w.heap[p]?=some (.cells (levC v (zFa n d)) t f)){j:Nat}(hj:j<25):w.cell? ⟨p,1+j,none⟩=some (bv (dd n d j)):=by
 have:=zFr h j (bv (dd n d j)) (by rw[List.getElem?_map,zFa,zH6 _ hj];rfl);simpa using this
theorem zWj(bs:List Nat)(j:Nat)(hj:j<bs.length)(hl:bs.length=25)(w:World):(Instr.index 137 (rV bs) (.int .i64 (j:Int))).run Tryz.prog w = .ok (bv (bs.getD j 0)) w:=by
 obtain⟨i0,hi,hz0,hz1,hz2⟩:=info_parts infoB;have hsz:(sizeOf 5).run Tryz.prog w = .ok 1 w:=by simp[sizeOf,typeInfo,hi,hz1,Result.andThen]
 have hc:(rC bs)[j]?=some (bv (bs.getD j 0)):=by
  simp[rC,List.getD_eq_getElem?_getD,List.getElem?_eq_getElem hj]
 simp[Instr.index,rV,run_underlying Tryz.underlying137,asIntOf,part,hsz,hc,go_sem];omega
def min2(a b:Int):Int:=if b<a then b else a
theorem run_min2(ts:Array TypeId)(ty:TypeId)(k:IntKind)(a b:Int)(w:World):(Builtin.min_ ts ty #[.int k a,.int k b]).run Tryz.prog w = .ok (.int k (min2 a b)) w:=by
 simp[Builtin.min_,Builtin.min2,min2,Sem.run_pure]
attribute [local go_sem ↓] zA7 zCf zA0 zA6 run_min2
attribute [local go_sem] zEq
set_option maxHeartbeats 1000000 in
theorem zLn(p:Nat)(xs:List Int)(d:Nat)(s:List Nat)(w:World)(h:LevAt w p xs d)(hs:s.length=25):
 Calls Tryz.prog 119 #[.pointer (some ⟨p,0,none⟩),rV s] w fun e w'=>e = .returned (rV (cutL xs.length d s))∧Below w.heap.size w w':=by
 obtain⟨hn,hd,ad,cap,hp,hr⟩:=h;have hpl:p<w.heap.size:=(Array.getElem?_eq_some_iff.1 hp).1;obtain⟨w2,hw2⟩:∃w2,(w.alloc (.cells (rC s) 137)).alloc (.cells (rC zeros) 137)=w2:=⟨_,rfl⟩;have A2:Hid (RAt w2 w.heap.size s):=hw2▸(RAt.new w _).old _;have C2:Hid (RAt w2 (w.heap.size+1) zeros):=by
  have:=RAt.new (w.alloc (.cells (rC s) 137)) zeros;rw[zA9]at this;exact hw2▸this
 have B2:Hid (Below w.heap.size w w2):=hw2▸((Below.refl _ w).alloc (Nat.le_refl _) _).alloc (by simp) _;have HW:Hid ((w.alloc (.cells (rC s) 137)).alloc (.cells (rC zeros) 137)=w2):=hw2;have hld:=zBk (zFr ((B2.out.block p hpl).trans hp)) (zEg xs.length d);clear hw2 hr hp;go_enter Tryz.func119,Tryz.ntmps119;go_wp2_with fail;rw[HW.out,hld];clear HW hld;go_wp2_with fail
 go_loopw [11] (fun v wr=>∃k:Nat,v = .int .i64 k∧k≤25∧RAt wr w.heap.size (cutK xs.length d s k)∧RAt wr (w.heap.size+1) zeros∧Below w.heap.size w wr) (fun v _=>25-(intOf v).toNat)
 case atStart=>exact⟨0,rfl,by omega,by rw[zXd hs];exact A2.out,C2.out,B2.out⟩
 case round=>
  clear A2 C2 B2;obtain⟨k,rfl,hk,hA,hC,hB⟩:=hrel;have HA:Hid (RAt wr w.heap.size (cutK xs.length d s k)):=hA;have HC:Hid (RAt wr (w.heap.size+1) zeros):=hC;have HB:Hid (Below w.heap.size w wr):=hB;have hwr:w.heap.size+1<wr.heap.size:=hC.lt;by_cases hk8:k<25
  · have hcell:=hA.cell (i:=k) (by rw[cutK_len];exact hk8)
    rw[cutK_get _ _ _ hk8]at hcell;have hfz:=hA.frozen k;(have hix:=fun w=>zWj (zFa xs.length d) k (by rw[zEg];exact hk8) (zEg _ _) w);rw[zW9 _ _ hk8]at hix;obtain⟨x,hx⟩:∃x,s.getD k 0=x:=⟨_,rfl⟩;obtain⟨y,hy⟩:∃y,dd xs.length d k=y:=⟨_,rfl⟩;have HM:Hid (min2 (x:Int) (y:Int)=(cutF xs.length d s k:Int)):=by
     unfold Hid min2 cutF;rw[hx,hy];split<;>omega
    rw[hx]at hcell;rw[hy]at hix;clear hA hC hB hx hy;go_wp2_with fail;rw[HM.out]
    go_roundw
    case rel=>
     refine⟨k+1,by go_num,by omega,?_,HC.out.off (by omega),HB.out.setCell (Nat.le_refl _) _⟩;rw[←zXe _ _ _ hk8];exact HA.out.set
    case measure=>simp[intOf];omega
  · obtain rfl:k=25:=by omega
    rw[cutK_end]at hA;have hld:=zBk hA.range (zDt xs.length d s);have hst:=zCi hC zBe (zDt xs.length d s);obtain⟨HP,HO⟩:=hC.put (ys:=cutL xs.length d s) (by rw[zDt,zBe]);have HBS:Hid (Below w.heap.size w (setR wr (w.heap.size+1) (cutL xs.length d s))):=HO.below hB (by omega);obtain⟨w5,hw5⟩:∃w5,setR wr (w.heap.size+1) (cutL xs.length d s)=w5:=⟨_,rfl⟩;rw[hw5]at hst HP HBS;have HST:Hid (RAt w5 (w.heap.size+1) (cutL xs.length d s)):=HP;clear hA hC hB HA HC HB hw5 HO HP;go_wp2_with fail;exact zOm Tryz.results119 rfl (zDt _ _ _) HST.out rfl ⟨rfl,HBS.out⟩
set_option maxHeartbeats 1000000 in
theorem zYc(p:Nat)(xs:List Int)(d:Nat)(w:World)(h:LevAt w p xs d):
 Calls Tryz.prog 76 #[.pointer (some ⟨p,0,none⟩)] w fun e w'=>e = .returned (rV (zFj xs.length d))∧Below w.heap.size w w':=by
 have HL:Hid (LevAt w p xs d):=h;obtain⟨w2,hw2⟩:∃w2,(w.alloc (.cells (rC zeros) 137)).alloc (.cells (rC zeros) 137)=w2:=⟨_,rfl⟩;have A2:Hid (RAt w2 w.heap.size zeros):=hw2▸(RAt.new w _).old _;have C2:Hid (RAt w2 (w.heap.size+1) zeros):=by
  have:=RAt.new (w.alloc (.cells (rC zeros) 137)) zeros;rw[zA9]at this;exact hw2▸this
 have B2:Hid (Below w.heap.size w w2):=hw2▸((Below.refl _ w).alloc (Nat.le_refl _) _).alloc (by simp) _;have HW:Hid ((w.alloc (.cells (rC zeros) 137)).alloc (.cells (rC zeros) 137)=w2):=hw2;clear hw2 h;go_enter Tryz.func76,Tryz.ntmps76;go_wp2_with fail;rw[HW.out];clear HW
 go_loopw [5] (fun v wr=>∃k:Nat,v = .int .i64 k∧k≤25∧RAt wr w.heap.size zeros∧RAt wr (w.heap.size+1) (risK k)∧Below w.heap.size w wr) (fun v _=>25-(intOf v).toNat)
 case atStart=>exact⟨0,rfl,by omega,A2.out,by rw[zUo,←zKc];exact C2.out,B2.out⟩
 case round=>
  clear A2 C2 B2;obtain⟨k,rfl,hk,hA,hC,hB⟩:=hrel;have HA:Hid (RAt wr w.heap.size zeros):=hA;have HC:Hid (RAt wr (w.heap.size+1) (risK k)):=hC;have HB:Hid (Below w.heap.size w wr):=hB;have hwr:w.heap.size+1<wr.heap.size:=hC.lt;by_cases hk8:k<25
  · have hcell:=hC.cell (i:=k) (by rw[risK,zCs];exact hk8)
    have hfz:=hC.frozen k;(have hwk:(k:Int)%256=(k:Int):=by omega);clear hA hC hB;go_wp2_with fail
    go_roundw
    case rel=>
     refine⟨k+1,by go_num,by omega,HA.out.off (by omega),?_,HB.out.setCell (by show w.heap.size≤w.heap.size+1;omega) _⟩;rw[←zUp hk8];exact HC.out.set
    case measure=>simp[intOf];omega
  · obtain rfl:k=25:=by omega
    rw[risK_end]at hC;have hld:=zBk hC.range (zCs _);have HL2:Hid (LevAt wr p xs d):=HL.out.below hB;have HA2:Hid (RAt wr w.heap.size zeros):=hA;have hB2:Hid (Below w.heap.size w wr):=hB;clear hA hC hB HA HC HB;go_wp2_with (go_at_call 119;refine(zLn p xs d _ _ HL2.out (zCs _)).mono ?_;rintro e w4 ⟨rfl,hb4⟩);have hC4:RAt w4 w.heap.size zeros:=HA2.out.below (by omega) hb4;have hst:=zCi hC4 zBe (zGf xs.length d);obtain⟨HP,HO⟩:=hC4.put (ys:=zFj xs.length d) (by rw[zGf,zBe]);have HBS:Hid (Below w.heap.size w (setR w4 w.heap.size (zFj xs.length d))):=HO.below (hB2.out.trans (hb4.mono (by omega))) (Nat.le_refl _);obtain⟨w5,hw5⟩:∃w5,setR w4 w.heap.size (zFj xs.length d)=w5:=⟨_,rfl⟩;rw[hw5]at hst HP HBS;have HST:Hid (RAt w5 w.heap.size (zFj xs.length d)):=HP;clear hC4 hw5 HO HP;rw[show cutL xs.length d (mk fun j=>j)=zFj xs.length d from rfl];rw[hst];go_wp2_with fail;exact zOm Tryz.results76 rfl (zGf _ _) HST.out rfl ⟨rfl,HBS.out⟩
end
section
open Go.RowKit Go.Lib Nums Pm
namespace Bt
theorem zVp(a b c:Value)(n:Nat):(madeCells #[a,b,c] (n*3)).toList=(List.replicate n [a,b,c]).flatten:=by
 apply List.ext_getElem?;intro q;by_cases hq:q<n*3
 · have e:q=(q/3)*3+q%3:=by omega
   have h3:q%3<3:=Nat.mod_lt _ (by decide);(have h1:(List.replicate n [a,b,c])[q/3]?=some [a,b,c]:=by rw[List.getElem?_replicate,if_pos (by omega)]);obtain⟨u,hu⟩:∃u,[a,b,c][q%3]?=some u:=⟨[a,b,c][q%3],List.getElem?_eq_getElem (by simpa using h3)⟩;have h2:=zHi (k:=3) (List.replicate n [a,b,c]) (fun x hx=>by rw[List.eq_of_mem_replicate hx];rfl) (q/3) (q%3) _ u h1 hu;rw[←e]at h2;rw[h2];(have h4:q%3=0∨q%3=1∨q%3=2:=by omega);simp only[madeCells];rcases h4 with h4|h4|h4<;>rw[h4]at hu<;>simp[hq,h4]at hu ⊢<;>exact hu
 · rw[List.getElem?_eq_none (by simp[madeCells];omega),List.getElem?_eq_none (by simp;omega)]
structure TkR(B:Nat)(w:World)(p:Nat)(room:Int)(v:Value)(out:List Mt)(lb n k:Nat)(wr:World)(h:List Mt)(vk:Value)(xs:List (List Value)):Prop where
 K:KAt B wr p room vk h
 own:vk.ownBlock=v.ownBlock
 kp:Kp room.toNat (out.take k) h
 row:GOwn 74 3 w.heap.size wr (.slice (some ⟨lb,0,none⟩) n n) xs
 len:xs.length=n
 dn:xs.drop k=(out.drop k).map cellsM
 up:Upd (KF p v) w wr
 lbg:w.heap.size≤lb
 hlt:∀k,KF p v k→k<w.heap.size
theorem TkR.put{B:Nat}{w:World}{p:Nat}{room:Int}{v:Value}{out:List Mt}{lb n k:Nat}{wr w1:World}{h h1:List Mt}{vk v1:Value}{xs:List (List Value)}(R:TkR B w p room v out lb n (k+1) wr h vk xs)(hout:out.length=n)(hkn:k<n)
 (K1:KAt B w1 p room v1 h1) (u1:Upd (KF p vk) wr w1) (hx1:v1.ownBlock=vk.ownBlock) (hp1:(el h 0::h1).Perm h) (hh1:Hp h1.length h1):
 ∃W,zC7 Tryz.prog (.pointer (some ⟨lb,k*3,none⟩)) (valM (el h 0)) w1 = .ok () W∧TkR B w p room v out lb n k W h1 v1 (xs.set k (cellsM (el h 0))):=by
 have hlb:∀j,KF p v j→¬j=lb:=fun j hj=>by have:=R.hlt j hj;have:=R.lbg;omega
 have e1:KF p vk=KF p v:=by funext j;unfold KF;rw[R.own]
 have e2:KF p v1=KF p v:=by funext j;unfold KF;rw[hx1,R.own]
 rw[e1]at u1;have hrow1:GOwn 74 3 w.heap.size w1 (.slice (some ⟨lb,0,none⟩) n n) xs:=GOwn.upd R.row u1 (fun g hg f=>hlb g f (by simpa[Value.ownBlock]using hg.symm));have hput:=GOwn.put hrow1 R.len.symm k (by rw[R.len];exact hkn) (cellsM (el h 0)) (cellsM_ok _);obtain⟨g,cap,hv,_,_,_,hc⟩:=hrow1.cell (by rw[R.len];omega);simp only[Value.slice.injEq,Option.some.injEq,Addr.mk.injEq,and_true]at hv;obtain⟨rfl,_,_⟩:=hv;obtain⟨x,hxk⟩:∃x,xs[k]?=some x:=⟨_,List.getElem?_eq_getElem (by rw[R.len];exact hkn)⟩;have hck:=(R.row.1 x (List.mem_of_getElem? hxk)).1;obtain⟨y0,y1,y2,rfl⟩:∃a b c,x=[a,b,c]:=by
  match x,hck with
  |[a,b,c],_=>exact⟨a,b,c,rfl⟩
 have hf:∀j,w1.frozen? ⟨lb,j,none⟩=false:=fun j=>by
  have:=hrow1.2;rw[R.len]at this;exact this.frozenAt j
 obtain⟨ini,hini⟩:=R.kp.worst (by have:=R.kp.same_len;rw[List.length_take]at this;omega);have hlen:(out.take (k+1)).length=k+1:=by rw[List.length_take];omega
 have hil:ini.length=k:=by rw[hini]at hlen;simpa using hlen
 have htk:out.take k=ini:=by
  have:(out.take (k+1)).take k=ini:=by rw[hini];exact List.take_left' hil
  rw[List.take_take,Nat.min_eq_left (by omega)]at this;exact this
 have hel:out[k]?=some (el h 0):=by
  have:(out.take (k+1))[k]?=some (el h 0):=by rw[hini,List.getElem?_append_right (by omega),hil];simp
  rwa [List.getElem?_take,if_pos (by omega)]at this
 have hupd:Upd (fun j=>j=lb) w1 (w1.setCells lb (k*3) (cellsM (el h 0))):=Upd.setCells (F:=fun j=>j=lb) rfl _ _ (Upd.refl _ _);have hu2:Upd (KF p v) w w1:=R.up.trans u1 (fun _ _ f=>f);refine⟨_,zC6 (hc k 0 _ _ hxk rfl) (hc k 1 _ _ hxk rfl) (hc k 2 _ _ hxk rfl) (hf _) (hf _) (hf _),⟨K1.upd hupd (fun j hj=>hlb j (e2▸hj)),hx1.trans R.own,?_,hput,by rw[List.length_set];exact R.len,?_,?_,R.lbg,R.hlt⟩⟩
 · rw[htk]
   have:=R.kp;rw[hini]at this;exact this.less hh1 hp1
 · have hd:xs.drop (k+1)=(out.drop (k+1)).map cellsM:=R.dn
   (have hk1:k<(xs.set k (cellsM (el h 0))).length:=by rw[List.length_set,R.len];exact hkn);(have hk2:k<out.length:=by omega);rw[List.drop_eq_getElem_cons hk1,List.drop_eq_getElem_cons hk2,List.getElem_set_self,List.drop_set_of_lt (by omega),hd,List.map_cons];(have:out[k]=el h 0:=by rw[List.getElem?_eq_getElem hk2]at hel;exact Option.some.inj hel);rw[this]
 · exact⟨hupd.os.trans hu2.os,hupd.tape.trans hu2.tape,hupd.output.trans hu2.output,Nat.le_trans hu2.size hupd.size,fun j hj hfj=>(hupd.block j (Nat.lt_of_lt_of_le hj hu2.size) (by have:=R.lbg;show ¬j=lb;omega)).trans (hu2.block j hj hfj)⟩
attribute [local go_sem ↓] zB3 zBu
set_option maxHeartbeats 1000000 in
theorem Take_any(B:Nat)(w:World)(p:Nat)(room:Int)(v:Value)(h out:List Mt)(K:KAt B w p room v h)(KP:Kp room.toNat out h)(hr:room≤64):
 Calls Tryz.prog 85 #[.pointer (some ⟨p,0,none⟩)] w fun e w'=>∃vl,e = .returned vl∧GOwn 74 3 w.heap.size w' vl (out.map cellsM)∧Upd (KF p v) w w'∧∃v',KAt B w' p room v' []∧v'.ownBlock=v.ownBlock:=by
 have hlo:=KP.same_len;have hlen:=KP.len;have HL:Hid (Calls Tryz.prog 124 #[.pointer (some ⟨p,0,none⟩)] w fun e w'=>e = .returned (.int .i64 h.length)∧w'=w):=zLw B w p room v h K;obtain⟨n,hn⟩:∃n,h.length=n:=⟨_,rfl⟩;rw[hn]at HL hlo;have HO:Hid (out.length=n):=hlo.symm;obtain⟨z,hz,hzs⟩:=rtyM.inf;obtain⟨i0,hi,hz0,hz1,hz2⟩:=info_parts hz;have hzz:z = .agg #[.string .empty,.int .i64 0,.int .i64 0]:=by
  have h1:(Tryz.prog.info? 74).map (fun i=>i.zero)=some (some (.agg #[.string .empty,.int .i64 0,.int .i64 0])):=by kernel_rfl
  rw[hi]at h1;simp only[Option.map_some,Option.some.injEq]at h1;rw[hz0]at h1;exact Option.some.inj h1
 have hn64:n≤64:=by omega
 obtain⟨W0,hmk,hown,hgr⟩:=run_make_full (P:=Tryz.prog) w w.heap.size 50 74 i0 z 3 rtyM.und hi hz0 hz1 .i64 .i64 n (by rw[hz2];omega) (by simp only[maxLen];omega) (Nat.le_refl _);have hb0:Below w.heap.size w W0:=(Below.refl _ w).grown hgr (Nat.le_refl _) (fun k e=>by cases e);obtain⟨lb,hlb⟩:∃lb,w.heap.size=lb:=⟨_,rfl⟩;have HR0:Hid (TkR B w p room v out lb n n W0 h v (List.replicate n (cellsM (.empty,0,0)))):=by
  have hlt:∀k,KF p v k→k<w.heap.size:=fun k hk=>by
   rcases hk with rfl|hk
   · exact K.lt
   · exact K.row.lt hk
  refine⟨K.below hb0,rfl,?_,⟨fun x hx=>?_,?_⟩,by simp,?_,zAj hb0,by omega,hlt⟩
  · rw[List.take_of_length_le (by omega)];exact KP
  · rw[List.eq_of_mem_replicate hx];exact cellsM_ok _
  · have e:=zVp (.string .empty) (.int .i64 0) (.int .i64 0) n
    rw[hzz,hlb]at hown;rw[List.length_replicate];have e2:(Value.agg #[.string .empty,.int .i64 0,.int .i64 0]).cells=#[.string .empty,.int .i64 0,.int .i64 0]:=rfl;rw[e2,e]at hown;rw[hlb];exact hown
  · rw[List.drop_of_length_le (by simp),List.drop_of_length_le (by omega)];rfl
 rw[hlb]at hmk;have HN:Hid (h.length=n):=hn;clear K KP hlo hlen hn hz hzs hi hz0 hz1 hz2 hzz hown hgr hb0 hr;go_enter Tryz.func85,Tryz.ntmps85;go_wp2_with (go_at_call 124;refine HL.out.mono ?_;rintro e w2 ⟨rfl,hw2⟩;replace hw2:=hw2.symm;subst hw2);clear hmk
 go_loopg [4] n (fun g s4 wr=>∃(k:Nat) (h':List Mt) (vk:Value) (xs:List (List Value)),s4 = .int .i64 ((k:Int)-1)∧k≤n∧k≤g∧Hid (TkR B w p room v out lb n k wr h' vk xs))
 case atStart=>exact⟨n,h,v,_,by first|rfl|go_num,Nat.le_refl _,Nat.le_refl _,HR0⟩
 case round=>
  obtain⟨k,h',vk,xs,hs4,hkn,hkg,HR⟩:=hrel;cases k with
  |zero=>
   (have e:u4 = .int .i64 (-1):=by rw[hs4];rfl);subst e;clear hs4;go_wp2;go_ret;(have hx:xs=out.map cellsM:=by have:=HR.out.dn;rwa [List.drop_zero,List.drop_zero]at this);have hh:h'=[]:=List.length_eq_zero_iff.1 (by have:=HR.out.kp.same_len;rw[List.take_zero]at this;simpa using this);have hrow:=HR.out.row;have hK:=HR.out.K;rw[hx]at hrow;rw[hh]at hK;exact⟨_,rfl,hrow,HR.out.up,vk,hK,HR.out.own⟩
  |succ j=>
   (have e:u4 = .int .i64 (j:Int):=by rw[hs4];congr 1;omega);subst e;clear hs4;(have hjn:(j:Int)<(n:Int):=by omega);(have hl':h'.length=j+1:=by have:=HR.out.kp.same_len;rw[List.length_take]at this;have:=HO.out;omega);have HTW:Hid (Calls Tryz.prog 127 #[.pointer (some ⟨p,0,none⟩)] wr fun e w'=>e = .returned (valM (el h' 0))∧∃v' h2,KAt B w' p room v' h2∧Upd (KF p vk) wr w'∧v'.ownBlock=vk.ownBlock∧(el h' 0::h2).Perm h'∧Hp h2.length h2∧h2.length=j):=zFh B wr p room vk h' j HR.out.K HR.out.kp.hp hl' (by omega);clear hl';go_wp2_with (go_at_call 127;refine HTW.out.mono ?_;rintro e w1 ⟨rfl,v1,h1,hK1,hu1,hx1,hp1,hh1,hl1⟩;obtain⟨W,hst,hR⟩:=HR.out.put HO.out (by omega) hK1 hu1 hx1 hp1 hh1;have HR1:Hid (TkR B w p room v out lb n j W h1 v1 (xs.set j (cellsM (el h' 0)))):=hR;clear hK1 hu1 hx1 hp1 hh1 hl1 hR);go_roundg j;(case measure=>omega);case rel=>exact⟨j,h1,v1,_,by first|rfl|go_num,by omega,Nat.le_refl _,HR1⟩
end Bt
end
