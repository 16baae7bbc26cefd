import Derived.Test.YthecngkdmnadoaaGreatFree
namespace Go.Proofs.YthecngkdmnadoaaGreat
open Go.RowKit
set_option maxRecDepth 100000
def syD(d:DS)(a:Int):DS:=if stepE d=0 then { stepD d with secs:=sy a d.secs } else stepD d
def SyncSays(N:Nat)(p:Nat)(d:DS)(fp:List Nat)(a:Int)(w:World)(e:Ending)(w':World):Prop:=
 e = .returned (.int .i64 (stepE d))∧∃fp',DiskAt (N+1) w' p (syD d a) fp'∧Only fp w w'∧∀b∈fp',b∈fp∨w.heap.size≤b
section
variable {α:Type}
def twoGet(M:List (Int×Nat×List (Int×α)))(a n:Int):Option α:=(mget a M).bind fun x=>mget n x.2
theorem twoGet_put(a n a' n':Int)(x':α)(nb:Nat)(F:List (Int×Nat×List (Int×α))):twoGet (putM a n x' nb F) a' n'=if a'=a∧n'=n then some x' else twoGet F a' n':=by
 unfold twoGet putM;rw[mget_mput];by_cases ea:a'=a
 · rw[if_pos ea,ea]
   cases hm:mget a F with
   |none=>
    simp only[Option.bind_some,Option.bind_none,true_and];by_cases en:n'=n
    · simp[mget,en]
    · have:¬n=n':=fun e=>en e.symm
      simp[mget,en,this]
   |some x=>
    simp only[Option.bind_some,mget_mput,true_and]
 · rw[if_neg ea,if_neg (fun e=>ea e.1)]
theorem mget_snoc{m:List (Int×α)}{n:Int}{x:α}(h:n∉keys m)(n':Int):mget n' (m++[(n,x)])=if n'=n then some x else mget n' m:=by
 rw[←mput_of_not_mem h,mget_mput]
end
structure SyncInv(w1:World)(sh:Sh)(a:Int)(done:List (Int×FS))(wr:World)(LM:List (Int×Nat×List (Int×List Nat))):Prop where
 two:Two verV wr sh.lb LM
 get:∀a' n',twoGet LM a' n'=if a'=a then (match mget n' done with|some x=>some (x.vs.getLastD zver)|none=>twoGet sh.L a' n')else twoGet sh.L a' n'
 len:∀q∈LM,(∀s∈q.2.2,s.2.length=64)∧q.2.2≠[]
 blk:∀b∈LM.map (·.2.1),b∈sh.L.map (·.2.1)∨w1.heap.size<b
 mine:∀y,mget a LM=some y→(∃x,mget a sh.L=some x∧y.1=x.1)∨w1.heap.size<y.1
 frame:∀k,k<w1.heap.size→k≠sh.lb→(∀x,mget a sh.L=some x→k≠x.1)→wr.heap[k]?=w1.heap[k]?
 os:wr.os=w1.os
 tape:wr.tape=w1.tape
 output:wr.output=w1.output
 size:w1.heap.size<wr.heap.size
theorem SyncInv.start{w1:World}{sh:Sh}{a:Int}(hh:Held w1 sh)(hn:(sh.lb::sh.L.map (·.2.1)).Nodup)(ob:Obj):SyncInv w1 sh a [] (w1.alloc ob) sh.L:=
 ⟨⟨hh.hl.same (alloc_old _ _ hh.hl.lt),fun q hq=>(hh.hli q hq).1.same (alloc_old _ _ (hh.hli q hq).1.lt),hn⟩,fun a' n'=>by split<;>rfl,fun q hq=>(hh.hli q hq).2,fun b hb => .inl hb,fun y hy => .inl ⟨y,hy,rfl⟩,fun k hk _ _=>alloc_old _ _ hk,rfl,rfl,rfl,by simp⟩
theorem SyncInv.one{w1 wr w':World}{sh:Sh}{a:Int}{done:List (Int×FS)}{LM:List (Int×Nat×List (Int×List Nat))}(h:SyncInv w1 sh a done wr LM)(hh:Held w1 sh)(ho:OneD w1.heap.size wr w'):SyncInv w1 sh a done w' LM:=by
 obtain⟨t1,t2,t3⟩:=h.two;have hlb:sh.lb≠w1.heap.size:=by have:=hh.hl.lt;omega
 have hb:∀q∈LM,q.2.1≠w1.heap.size:=fun q hq e=>by
  rcases h.blk _ (List.mem_map.2 ⟨q,hq,rfl⟩)with h1|h1
  · obtain⟨q',hq',e'⟩:=List.mem_map.1 h1
    have:=(hh.hli q' hq').1.lt;omega
  · omega
 exact⟨⟨t1.same (ho.block _ hlb),fun q hq=>(t2 q hq).same (ho.block _ (hb q hq)),t3⟩,h.get,h.len,h.blk,h.mine,fun k hk h1 h2=>(ho.block k (by omega)).trans (h.frame k hk h1 h2),ho.os.trans h.os,ho.tape.trans h.tape,ho.output.trans h.output,by rw[ho.size];exact h.size⟩
theorem SyncInv.put{w1 wr w':World}{sh:Sh}{a n:Int}{done:List (Int×FS)}{LM:List (Int×Nat×List (Int×List Nat))}{x:FS}(h:SyncInv w1 sh a done wr LM)(hk:n∉keys done)(hv:(x.vs.getLastD zver).length=64)
 (hp:PutPost verV a n (x.vs.getLastD zver) sh.lb LM wr w'):∃LM',SyncInv w1 sh a (done++[(n,x)]) w' LM':=by
 obtain⟨nb,t,hnb,hnb',ho,ht,hu,hs,hf⟩:=hp;obtain⟨t1,t2,t3⟩:=h.two;have hsz:=h.size;refine⟨_,t,fun a' n'=>?_,fun q hq=>?_,fun b hb=>?_,fun y hy=>?_,fun k hk h1 h2=>?_,ho.trans h.os,ht.trans h.tape,hu.trans h.output,by omega⟩
 · rw[twoGet_put,h.get,mget_snoc hk]
   by_cases ea:a'=a
   · by_cases en:n'=n
     · rw[if_pos ⟨ea,en⟩,if_pos ea,if_pos en]
     · rw[if_neg (fun e=>en e.2),if_pos ea,if_pos ea,if_neg en]
   · rw[if_neg (fun e=>ea e.1),if_neg ea,if_neg ea]
 · unfold putM at hq
   rcases mem_mput_ne t1.nodup hq with e|⟨hq,_⟩
   · subst e
     cases hm:mget a LM with
     |none=>
      refine⟨fun s hs=>?_,by simp⟩;simp only[List.mem_singleton]at hs;rw[hs];exact hv
     |some y=>
      have hy:=mem_keys_of_mget hm;refine⟨fun s hs=>?_,fun e=>?_⟩
      · rcases mem_mput hs with e|hs
        · rw[e];exact hv
        · exact(h.len _ hy).1 s hs
      · have:=(mput_perm n (x.vs.getLastD zver) y.2).length_eq
        simp only at e;rw[e]at this;simp at this
   · exact h.len q hq
 · obtain⟨q,hq,rfl⟩:=List.mem_map.1 hb
   unfold putM at hq;rcases mem_mput_ne t1.nodup hq with e|⟨hq,_⟩
   · subst e
     cases hm:mget a LM with
     |none=>
      right;have:=hnb hm;show w1.heap.size<nb;omega
     |some y=>exact h.blk _ (List.mem_map.2 ⟨_,mem_keys_of_mget hm,rfl⟩)
   · exact h.blk _ (List.mem_map.2 ⟨q,hq,rfl⟩)
 · unfold putM at hy
   rw[mget_mput,if_pos rfl]at hy;have:=Option.some.inj hy;subst this;cases hm:mget a LM with
   |none=>
    right;have:=hnb hm;show w1.heap.size<nb;omega
   |some y=>exact h.mine y hm
 · refine(hf k (by omega) h1 fun y hy e=>?_).trans (h.frame k hk h1 h2)
   rcases h.mine y hy with⟨x,hx,e2⟩|e2
   · exact h2 x hx (e.trans e2)
   · omega
def Sh.synced(sh:Sh)(LM:List (Int×Nat×List (Int×List Nat)))(a:Int):Sh:={ sh with L:=LM,F:=mdel a sh.F }
theorem rep_sync{w1 wr:World}{sh:Sh}{S:List Sec}{a:Int}{done:List (Int×FS)}{LM:List (Int×Nat×List (Int×List Nat))}(hh:Held w1 sh)(hr:Rep sh S)(h:SyncInv w1 sh a done wr LM)(hd:(keys done).Nodup)(hm:∀p∈done,p∈inF sh a)(ha:AllIn (inF sh a) done):Rep (sh.synced LM a) (sy a S):=by
 have hdone:∀n',mget n' done=mget n' (inF sh a):=fun n'=>by
  cases hx:mget n' (inF sh a)with
  |some x=>exact mget_of_mem hd (ha _ (mem_keys_of_mget hx))
  |none=>
   rw[mget_none]at hx ⊢;intro hk;obtain⟨q,hq,rfl⟩:=List.mem_map.1 hk;exact hx (List.mem_map.2 ⟨q,hm q hq,rfl⟩)
 refine⟨sy_sorted hr.sorted,fun a' n'=>?_,fun a' n'=>?_,fun s hs=>?_⟩
 · have e:lget (sh.synced LM a) a' n'=twoGet LM a' n':=rfl
   rw[e,h.get,find_sy];by_cases ea:a'=a
   · rw[if_pos ea,ea,hdone,←fsGet_in]
     have hc:=cur_rep hr a n';rw[fget_eq]at hc;have hl:twoGet sh.L a n'=lget sh a n':=rfl;rw[hl];have e2:((findS a n' S).map fun s=>if s.area=a then syS s else s).bind (·.last)=curOf S a n':=by
      rw[curOf];cases hs:findS a n' S with
      |none=>rfl
      |some s=>simp only[Option.map_some,Option.bind_some,(findS_at hs).1,if_true,syS]
     rw[e2,hc];cases hx:fsGet sh.F a n' with
     |none=>rfl
     |some x=>
      have hne:=(inF_vs hh (by rw[←fsGet_in];exact hx)).2.2.2.2;simp only[Option.map_some,Option.getD_some];rw[List.getLastD_eq_getLast?];cases hg:x.vs.getLast? with
      |none=>rw[List.getLast?_eq_none_iff]at hg;exact absurd hg hne
      |some v=>rfl
   · rw[if_neg ea]
     have hl:twoGet sh.L a' n'=lget sh a' n':=rfl;rw[hl,hr.last];cases hs:findS a' n' S with
     |none=>rfl
     |some s=>
      (have e3:s.area≠a:=fun e=>ea ((findS_at hs).1.symm.trans e));simp[e3]
 · rw[fget_eq]
   have e:fsGet (sh.synced LM a).F a' n'=if a'=a then none else fsGet sh.F a' n':=by
    show((mget a' (mdel a sh.F)).bind _)=_;rw[mget_mdel hh.hf.nodup];by_cases ea:a'=a
    · rw[if_pos ea,if_pos ea];rfl
    · rw[if_neg ea,if_neg ea];rfl
   rw[e,find_sy];have hfr:=hr.fresh a' n';rw[fget_eq]at hfr;by_cases ea:a'=a
   · rw[if_pos ea]
     cases hs:findS a' n' S with
     |none=>rfl
     |some s=>
      have e3:s.area=a:=(findS_at hs).1.trans ea;simp[e3,syS]
   · rw[if_neg ea,hfr]
     cases hs:findS a' n' S with
     |none=>rfl
     |some s=>
      (have e3:s.area≠a:=fun e=>ea ((findS_at hs).1.symm.trans e));simp[e3]
 · obtain⟨t,ht,rfl⟩:=List.mem_map.1 hs
   by_cases e:t.area=a
   · rw[if_pos e]
     left;(have:(findS t.area t.n S).isSome=true:=by rw[findS_self hr.sorted ht];rfl);rw[←cur_find hr,curOf,findS_self hr.sorted ht]at this;show t.cur≠none;intro e2;simp only[Option.bind_some,e2]at this;cases this
   · rw[if_neg e];exact hr.there t ht
theorem held_sync{p:Nat}{w1 wr w5:World}{sh:Sh}{a:Int}{done:List (Int×FS)}{LM:List (Int×Nat×List (Int×List Nat))}(hh:Held w1 sh)(hn:(p::sh.blocks).Nodup)(hp:p<w1.heap.size)(h:SyncInv w1 sh a done wr LM)(hf:MapAt .u64 inV w5 sh.fb (mdel a sh.F))(ho:One sh.fb wr w5):
 Held w5 (sh.synced LM a)∧(p::(sh.synced LM a).blocks).Nodup∧(∀b∈p::(sh.synced LM a).blocks,b∈p::sh.blocks∨w1.heap.size≤b)∧Only (p::sh.blocks) w1 w5∧w5.heap[p]?=w1.heap[p]?:=by
 have hn0:=hn;simp only[Sh.blocks,List.nodup_cons,List.mem_cons,List.mem_append,not_or,List.nodup_append]at hn;obtain⟨⟨p1,p2,p3,p4⟩,⟨l1,l2,l3⟩,⟨f1,f2⟩,nl,nf,nlf⟩:=hn;obtain⟨t1,t2,t3⟩:=h.two;have hlb:=hh.hl.lt;have hfb:=hh.hf.lt;have hlm:∀b∈Sh.lblocks LM,b∈Sh.lblocks sh.L∨w1.heap.size<b:=h.blk;have hLb:∀x,mget a sh.L=some x→x.1∈Sh.lblocks sh.L:=fun x hx=>mem_lblocks (mem_keys_of_mget hx)
 have hlt:∀b∈Sh.fblocks sh.F,b<w1.heap.size:=fun b hb=>hh.lt b (.tail _ (.tail _ (List.mem_append_right _ hb)))
 have far:∀k,k<w1.heap.size→k≠sh.lb→k≠sh.fb→k∉Sh.lblocks sh.L→w5.heap[k]?=w1.heap[k]?:=fun k hk h1 h2 h3=>(ho.block k h2).trans (h.frame k hk h1 fun x hx e=>h3 (e▸hLb x hx))
 have fsub:=(mdel_sub a sh.F).subset;have fbsub:∀b∈Sh.fblocks (mdel a sh.F),b∈Sh.fblocks sh.F:=by
  have:=(free_blocks sh a).subset;intro b hb;obtain⟨q,hq,hb⟩:=List.mem_flatMap.1 hb;exact List.mem_flatMap.2 ⟨q,fsub hq,hb⟩
 have fnd:(Sh.fblocks (mdel a sh.F)).Nodup:=by
  have:=((free_blocks sh a).nodup (List.nodup_cons.1 hn0).2);simp only[Sh.blocks,Sh.free,List.nodup_cons,List.nodup_append]at this;exact this.2.2.2.1
 have hLnd:(Sh.lblocks LM).Nodup:=(List.nodup_cons.1 t3).2;refine⟨⟨t1.same (ho.block _ l1),hf,fun q hq=>?_,fun q hq=>?_⟩,?_,?_,?_,far p hp p1 p2 p3⟩
 · refine⟨(t2 q hq).same (ho.block _ fun e=>?_),h.len q hq⟩
   rcases hlm _ (mem_lblocks hq)with h1|h1
   · exact f1 (e▸h1)
   · omega
 · obtain⟨k1,k2,k3⟩:=hh.hfi q (fsub hq)
   have hm:=mem_fblocks (fsub hq);refine⟨k1.same (far _ k1.lt (fun e=>l3 (e▸hm)) (fun e=>f2 (e▸hm)) (fun h2=>nlf _ h2 _ hm rfl)),fun s hs=>?_,k3⟩;have hm2:=mem_fblocks2 (fsub hq) hs;exact(k2 s hs).same (far _ (k2 s hs).lt (fun e=>l3 (e▸hm2)) (fun e=>f2 (e▸hm2)) (fun h2=>nlf _ h2 _ hm2 rfl))
 · have farL:∀k,k<w1.heap.size→k∉Sh.lblocks sh.L→k∉Sh.lblocks LM:=fun k hk h1 h2=>by
    rcases hlm k h2 with h3|h3
    · exact h1 h3
    · omega
   simp only[Sh.blocks,Sh.synced,List.nodup_cons,List.mem_cons,List.mem_append,not_or,List.nodup_append];exact⟨⟨p1,p2,farL p hp p3,fun hm=>p4 (fbsub _ hm)⟩,⟨l1,farL _ hlb l2,fun hm=>l3 (fbsub _ hm)⟩,⟨farL _ hfb f1,fun hm=>f2 (fbsub _ hm)⟩,hLnd,fnd,fun x hx y hy e=>by
    have hy':=fbsub y hy;have:=hlt y hy';rcases hlm x hx with h3|h3
    · exact nlf x h3 y hy' e
    · omega⟩
 · intro b hb
   simp only[Sh.blocks,Sh.synced,List.mem_cons,List.mem_append]at hb ⊢;rcases hb with hb|hb|hb|hb|hb
   · exact .inl (.inl hb)
   · exact .inl (.inr (.inl hb))
   · exact .inl (.inr (.inr (.inl hb)))
   · rcases hlm b hb with h3|h3
     · exact .inl (.inr (.inr (.inr (.inl h3))))
     · exact .inr (by omega)
   · exact .inl (.inr (.inr (.inr (.inr (fbsub b hb)))))
 · refine⟨ho.os.trans h.os,ho.tape.trans h.tape,ho.output.trans h.output,by have:=h.size;have:=ho.size;omega,fun k hk hkn=>far k hk (fun e=>hkn (e ▸ .tail _ (.head _))) (fun e=>hkn (e ▸ .tail _ (.tail _ (.head _)))) (fun hm=>hkn (.tail _ (.tail _ (.tail _ (List.mem_append_left _ hm)))))⟩
def SY(p lb:Nat)(x:FS)(W:World):Prop:=W.cell? ⟨p,6,none⟩=some (.map (some lb))∧x.ok W
theorem SY.facts{p lb:Nat}{x:FS}{W:World}(h:SY p lb x W):W.cell? ⟨p,6,none⟩=some (.map (some lb)):=h.1
theorem SY.load{p lb:Nat}{x:FS}{W:World}(h:SY p lb x W):loadV Tryz.prog (.pointer (some ⟨x.g,(x.vs.length-1)*64,none⟩)) W = .ok (verV (x.vs.getLastD zver)) W:=by
 have hne:=h.2.2.2.2.2;have hpos:0<x.vs.length:=List.length_pos_iff.2 hne;have:=h.2.load (k:=x.vs.length-1) (by omega);rw[this,List.getLastD_eq_getLast?,List.getLast?_eq_getElem?,List.getElem?_eq_getElem (by omega)];rfl
attribute [local go_sem ↓] exec_alloc_ver exec_box_ver exec_load_ver exec_store_ver exec_copy_ver
attribute [local go_sem] verV_cells
set_option maxHeartbeats 4000000 in
theorem Sync_any(N:Nat)(p:Nat)(d:DS)(fp:List Nat)(a:Int)(w:World)(h:DiskAt N w p d fp)(hN:N<1099511627776):
 Calls Tryz.prog 26 #[.pointer (some ⟨p,0,none⟩),.int .u64 a] w (SyncSays N p d fp a w):=by
 have HD:Hid (DiskAt N w p d fp):=h;clear h;by_cases he:stepE d=0
 · have HE:Hid (stepE d=0):=he
   (have HS:Hid (∀w0,DiskAt N w0 p d fp→Calls Tryz.prog 52 #[.pointer (some ⟨p,0,none⟩)] w0 fun x w'=>x = .returned (.int .i64 0)∧DiskAt (N+1) w' p (stepD d) fp∧One p w0 w'):=fun w0 h0=>(step_any N p d fp w0 h0 (by omega)).mono (by rintro e w' ⟨rfl,h1,h2⟩;exact⟨by rw[HE.out],h1,h2⟩));clear he;go_enter Tryz.func26,Tryz.ntmps26;go_wp2_with fail;refine(HS.out w HD.out).mono ?_;rintro e w1 ⟨rfl,hd1,ho1⟩;have HD1:Hid (DiskAt (N+1) w1 p (stepD d) fp):=hd1;have HO1:Hid (One p w w1):=ho1;obtain⟨sh,h1,h2,h3,h4,h5,h6⟩:=hd1;obtain⟨c0,c1,c2,c3,c4,c5,c6,c7,hz⟩:=disk_cells h1;have hF:=look_F h2 a;have HH:Hid (Held w1 sh):=h2;have HR:Hid (Rep sh (stepD d).secs):=h3;have H4:Hid (fp=p::sh.blocks):=h4;have H5:Hid ((p::sh.blocks).Nodup):=h4▸h5;have H1:Hid (w1.heap[p]?=some (dC (stepD d).room ((stepD d).secs.length:Int) (stepD d).steps (stepD d).dead (stepD d).armed (stepD d).ahead sh.lb sh.fb)):=h1;have hpl:p<w1.heap.size:=(Array.getElem?_eq_some_iff.1 h1).1;have hb7:Hid (∀s∈(stepD d).secs,s.fresh.length≤N+1):=HD1.out.bounds.2.2.2.2.2.2.1;have n5:=H5.out;simp only[Sh.blocks,List.nodup_cons,List.mem_cons,List.mem_append,not_or,List.nodup_append]at n5;obtain⟨⟨p1,p2,p3,p4⟩,⟨l1,l2,l3⟩,⟨f1,f2⟩,nl,nf,nlf⟩:=n5;have HLn:Hid ((sh.lb::sh.L.map (·.2.1)).Nodup):=List.nodup_cons.2 ⟨l2,nl⟩;have NLF:Hid (∀x∈Sh.lblocks sh.L,∀y∈Sh.fblocks sh.F,x≠y):=nlf;clear ho1 h1 h2 h3 h4 h5 h6 nl nf nlf f2;go_wp2_with (at_range;refine wpList_range_at (range_F HH.out a) rfl _ rfl rfl ?_);intro ob hrg;have HG:Hid (Ranges .i64 fsV (w1.alloc ob) (boOf a sh.F) w1.heap.size (inF sh a) []):=hrg;clear hrg c0 c1 c2 c3 c4 c5 c6 c7 hz hF;go_wp2_with fail
   go_loopw [] (fun wr=>∃done LM,Ranges .i64 fsV wr (boOf a sh.F) w1.heap.size (inF sh a) done∧SyncInv w1 sh a done wr LM) (fun wr=>(inF sh a).length-seenAt wr w1.heap.size)
   case atStart=>exact⟨[],sh.L,HG.out,SyncInv.start HH.out HLn.out ob⟩
   case round=>
    obtain⟨done,LM,hrg,hinv⟩:=hrel;have HI:Hid (SyncInv w1 sh a done wr LM):=hinv;have HRG:Hid (Ranges .i64 fsV wr (boOf a sh.F) w1.heap.size (inF sh a) done):=hrg;have HSN:Hid _:=hrg.seen;clear hrg hinv;go_wp2_with (at_next;refine wpList_next_at HRG.out rfl _ rfl rfl ?_ ?_)
    · intro hall
      (have hfar:∀k,k<w1.heap.size→k≠sh.lb→k∉Sh.lblocks sh.L→wr.heap[k]?=w1.heap[k]?:=fun k hk h1 h2=>HI.out.frame k hk h1 fun x hx e=>h2 (e▸mem_lblocks (mem_keys_of_mget hx)));have c7:wr.cell? ⟨p,7,none⟩=some (.map (some sh.fb)):=(World.cell?_of_block (w:=w1) (a:=⟨p,7,none⟩) (hfar p hpl p1 p3)).trans (disk_cells H1.out).2.2.2.2.2.2.2.1;have HF:Hid (MapAt .u64 inV wr sh.fb sh.F):=HH.out.hf.same (hfar _ HH.out.hf.lt (fun e=>l1 e.symm) f1);have HA:Hid (AllIn (inF sh a) done):=hall;clear hall hfar;go_wp2_with (at_delete;refine wpList_delete HF.out rfl _ _ _ _ _ rfl Tryz.underlying71 Tryz.underlying22 a rfl rfl ?_);intro w5 hf5 ho5;obtain⟨r1,r2,r3,r4,r5⟩:=held_sync HH.out H5.out hpl HI.out hf5 ho5;have hsn:=HSN.out;have hrep:=rep_sync HH.out HR.out HI.out hsn.2.2.1 hsn.2.2.2 HA.out;have hs0:=HO1.out.size;clear c7;go_wp2_with fail;go_ret;obtain⟨b1,b2,b3,b4,b5,b6,b7,b8,b9,b10⟩:=HD1.out.bounds;refine⟨by rw[HE.out];rfl,p::(sh.synced LM a).blocks,?_,(Only.of_one HO1.out HD.out.mem).then r4 (fun x hx=>by rw[H4.out];exact hx),fun b hb=>?_⟩
      · rw[syD,if_pos HE.out,←(stepD_secs d).1]
        refine⟨sh.synced LM a,?_,r1,hrep,rfl,r2,b1,b2,b3,b4,?_,?_,fun s hs=>?_,b8,b9,b10⟩
        · rw[r5,H1.out]
          (have e3:(sy a (stepD d).secs).length=(stepD d).secs.length:=by simp[sy]);show _=some (Obj.cells #[_,.int .i64 ((sy a (stepD d).secs).length:Int),_,_,_,_,_,_] _ _);rw[e3];rfl
        · show(sy a (stepD d).secs).length≤N+1
          simpa[sy]using b5
        · show((sy a (stepD d).secs).length:Int)≤(stepD d).room
          simpa[sy]using b6
        · obtain⟨t,ht,rfl⟩:=List.mem_map.1 hs
          split
          · show 0≤N+1;omega
          · exact b7 t ht
      · rcases r3 b hb with hb|hb
        · exact .inl (by rw[H4.out];exact hb)
        · exact .inr (by omega)
    · intro q x w' hq hk hr2 ho hen
      have hinv':=HI.out.one HH.out ho;(have hfar:∀k,k<w1.heap.size→k≠sh.lb→k∉Sh.lblocks sh.L→w'.heap[k]?=w1.heap[k]?:=fun k hk h1 h2=>hinv'.frame k hk h1 fun x hx e=>h2 (e▸mem_lblocks (mem_keys_of_mget hx)));have hget:mget q (inF sh a)=some x:=mget_of_mem (inF_nodup HH.out a) hq;(have hfx:fsGet sh.F a q=some x:=by rw[fsGet_in];exact hget);have hok1:=inF_vs HH.out hget;have hgm:x.g∈Sh.fblocks sh.F:=by
       obtain⟨y,hy,hz⟩:=Option.bind_eq_some_iff.1 hfx;exact mem_fblocks2 (mem_keys_of_mget hy) (mem_keys_of_mget hz)
      (have hgl:x.g∉Sh.lblocks sh.L:=fun hm=>NLF.out _ hm _ hgm rfl);(have hglb:x.g≠sh.lb:=fun e=>l3 (e▸hgm));have hok':x.ok w':=hok1.same (hfar _ hok1.lt hglb hgl);have hc6:w'.cell? ⟨p,6,none⟩=some (.map (some sh.lb)):=(World.cell?_of_block (w:=w1) (a:=⟨p,6,none⟩) (hfar p hpl p1 p3)).trans (disk_cells H1.out).2.2.2.2.2.2.1;have HS:Hid (SY p sh.lb x w'):=⟨hc6,hok'⟩;have hpos:0<x.vs.length:=List.length_pos_iff.2 hok1.2.2.2.2;have hxN:x.vs.length≤N+1:=by
       have hfr:=HR.out.fresh a q;rw[fget_eq,hfx]at hfr;simp only[Option.map_some,Option.getD_some]at hfr;cases hs:findS a q (stepD d).secs with
       |none=>rw[hs]at hfr;rw[hfr]at hpos;simp at hpos
       |some s=>rw[hs]at hfr;rw[hfr];exact hb7.out s (findS_mem hs)
      have h64:(x.vs.getLastD zver).length=64:=by
       rw[List.getLastD_eq_getLast?];cases hg:x.vs.getLast? with
       |none=>exact zver_len
       |some v=>exact hok1.2.2.2.1 v (List.mem_of_getLast? hg)
      have HI2:Hid (SyncInv w1 sh a done w' LM):=hinv';have HR2:Hid (Ranges .i64 fsV w' (boOf a sh.F) w1.heap.size (inF sh a) (done++[(q,x)])):=hr2;have HK:Hid (q∉keys done):=hk;have HX:Hid (x.g≠sh.lb∧x.g∉Sh.lblocks sh.L∧x.g<w1.heap.size):=⟨hglb,hgl,hok1.lt⟩;have hen':(Instr.entry (.pointer (some ⟨w1.heap.size,0,none⟩))).run Tryz.prog w' = .ok (.tuple #[.int .i64 q,.slice (some ⟨x.g,0,none⟩) x.vs.length x.cap]) w':=hen;clear hen hinv' hfar hget hfx hok1 hgm hgl hglb hok' hc6 hr2 hk hq ho;go_wp2_with fail;(have hz1:(1:Int)≤(x.vs.length:Int):=by omega);(have hz3:(x.vs.length:Int)-1<(x.vs.length:Int):=by omega);(have hz2:(x.vs.length:Int)≤1099511627777:=by omega);(have hwr:IntKind.i64.wrap ((x.vs.length:Int)-1)=(x.vs.length:Int)-1:=by simp[IntKind.wrap,IntKind.bits,IntKind.signed];omega);(have htn:((x.vs.length:Int)-1).toNat=x.vs.length-1:=by omega);refine region_at (S:=SY p sh.lb x) 13 rfl (by kernel_rfl) HS.out (fun hHeld=>?_);refine tq4 SY.facts 0 25 1 26 2 27 3 28 ?_;simp only[sZa,sZb,sZc];refine tq4 SY.facts 4 29 5 30 6 31 7 32 ?_;simp only[sZa,sZb,sZc];refine tq2 SY.facts 8 33 9 34 ?_;simp only[sZa,sZb,sZc];refine tq SY.facts 10 35 ?_;simp only[sZa,sZb,sZc];refine tk (i:=11) (v:=verV (x.vs.getLastD zver)) 36 rfl rfl (by kernel_rfl) (fun w hSw=>?_) ?_
      · refine(exec_load_ver _ (.tmp 35) _ _ _ _ _ w).trans ?_
        show Result.andThen (loadV Tryz.prog (.pointer (some ⟨x.g,_,none⟩)) w) _=_;rw[SY.load hSw];rfl
      simp only[sZa,sZb,sZc];have hdr:SyncInv w1 sh a done w'.drew LM:=HI2.out.one HH.out ⟨rfl,rfl,rfl,rfl,fun _ _=>rfl⟩;refine one_call (i:=12) (w0:=w'.drew) 37 46 #[.map (some sh.lb),.int .u64 a,.int .i64 q,verV (x.vs.getLastD zver)] (by kernel_rfl) rfl rfl (by rfl) (by kernel_rfl) ?_;refine(putL_any sh.lb LM a q (x.vs.getLastD zver) h64 w'.drew hdr.two).mono ?_;rintro e w3 ⟨rfl,hput⟩;have hput0:=hput;obtain⟨LM',hinv3⟩:=hdr.put HK.out h64 hput;have hst:∀k,k<w1.heap.size→k≠sh.lb→k∉Sh.lblocks sh.L→w3.heap[k]?=w'.drew.heap[k]?:=fun k hk h1 h2=>by
       rw[hinv3.frame k hk h1 fun x hx e=>h2 (e▸mem_lblocks (mem_keys_of_mget hx)),hdr.frame k hk h1 fun x hx e=>h2 (e▸mem_lblocks (mem_keys_of_mget hx))]
      have hS3:SY p sh.lb x w3:=⟨(World.cell?_of_block (w:=w'.drew) (a:=⟨p,6,none⟩) (hst p hpl p1 p3)).trans HS.out.1,FS.ok.same (w:=w'.drew) HS.out.2 (hst _ HX.out.2.2 HX.out.1 HX.out.2.1)⟩;refine⟨_,rfl,hS3,fun _=>?_⟩;refine wpAnyH_done (by kernel_rfl) ?_ _;simp only[sZa,sZb,sZc];have hr3:Ranges .i64 fsV w3 (boOf a sh.F) w1.heap.size (inF sh a) (done++[(q,x)]):=by
       obtain⟨nb,_,hnb,_,_,_,_,hs3,hf3⟩:=hput0;refine(show Ranges .i64 fsV w'.drew (boOf a sh.F) w1.heap.size (inF sh a) (done++[(q,x)])from HR2.out.same rfl fun _ _=>rfl).same (hf3 _ HR2.out.lt (fun e=>?_) (fun y hy e=>?_)) (fun b hb=>?_)
       · have:=HH.out.hl.lt;omega
       · rcases hdr.mine y hy with⟨z,hz,e2⟩|e2
         · have:=(HH.out.hli _ (mem_keys_of_mget hz)).1.lt
           simp only at this;omega
         · omega
       · have hbm:b∈Sh.fblocks sh.F:=by
          cases hm:mget a sh.F with
          |none=>rw[boOf,hm]at hb;cases hb
          |some z=>
           rw[boOf,hm]at hb;have:=Option.some.inj hb;subst this;exact mem_fblocks (mem_keys_of_mget hm)
         have hbl:=HH.out.lt b (.tail _ (.tail _ (List.mem_append_right _ hbm)));exact hst b hbl (fun e=>l3 (e▸hbm)) (fun hm=>NLF.out _ hm _ hbm rfl)
      clear hst hput hput0 hS3 hHeld;have HR3:Hid (Ranges .i64 fsV w3 (boOf a sh.F) w1.heap.size (inF sh a) (done++[(q,x)])):=hr3;have HI3:Hid (SyncInv w1 sh a (done++[(q,x)]) w3 LM'):=hinv3;have hsn:=HSN.out;have hs3:=hr3.seen;clear hr3 hinv3 hdr;go_wp2_with fail
      go_roundw
      case rel=>exact⟨_,_,HR3.out,HI3.out⟩
      case measure=>
       rw[List.length_append,List.length_singleton]at hs3;omega
 · have HE:Hid (stepE d≠0):=he
   (have hb:(stepE d != 0)=true:=by rw[bne_iff_ne];exact he);clear he;go_enter Tryz.func26,Tryz.ntmps26;go_wp2_with fail;refine(step_any N p d fp w HD.out (by omega)).mono ?_;rintro e w1 ⟨rfl,hd1,ho1⟩;have HD1:Hid (DiskAt (N+1) w1 p (stepD d) fp):=hd1;have HO1:Hid (One p w w1):=ho1;clear hd1 ho1;go_wp2_with fail;go_ret;exact⟨rfl,fp,by rw[syD,if_neg HE.out];exact HD1.out,Only.of_one HO1.out HD.out.mem,fun b hb => .inl hb⟩
end Go.Proofs.YthecngkdmnadoaaGreat
