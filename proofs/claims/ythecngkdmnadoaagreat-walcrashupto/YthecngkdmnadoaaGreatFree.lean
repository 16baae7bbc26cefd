import Derived.Test.YthecngkdmnadoaaGreatCount
namespace Go.Proofs.YthecngkdmnadoaaGreat
open Go.RowKit
set_option maxRecDepth 100000
def frE(d:DS):Int:=stepE d
def frD(d:DS)(a:Int):DS:=if stepE d=0 then { stepD d with secs:=fr a d.secs } else stepD d
def FreeSays(N:Nat)(p:Nat)(d:DS)(fp:List Nat)(a:Int)(w:World)(e:Ending)(w':World):Prop:=
 e = .returned (.int .i64 (frE d))∧∃fp',DiskAt (N+1) w' p (frD d a) fp'∧Only fp w w'∧∀b∈fp',b∈fp
theorem wpList_delete{α:Type}{q:IntKind}{f:α→Value}{w:World}{b:Nat}{M:List (Int×α)}{ops:Array Oper}{rest:List Oper}{o:Oper}{a:Act}{Q:Exit→Act→World→Prop}
 (h:MapAt q f w b M) (hg:o.guard=none) (m x:Operand) (t kt et:TypeId) (hop:o.op=Op.call { callee:=Callee.builtin Builtin.delete,args:=#[m,x],argTypes:=#[t,kt] }) (ht:Tryz.prog.underlying t=some (.map kt et)) (hk:Tryz.prog.underlying kt=some (.int q)) (k:Int)
 (hm:a.eval m = .map (some b)) (hx:a.eval x = .int q k) (hK:∀w',MapAt q f w' b (mdel k M)→One b w w'→wpList Tryz.prog ops Q rest (a.put o.dst (.tuple #[])) w'):wpList Tryz.prog ops Q (o::rest) a w:=by
 refine wpList_plain hg fun K' hK'=>?_
 obtain⟨w',hrun,r1,r2⟩:=h.drop ht hk o.type k;unfold Oper.wp;simp only[execOp,hop,resolve,invoke,builtin,Sem.run_bind,Sem.run_pure,Result.andThen_ok,List.map_toArray,List.map_cons,List.map_nil,hm,hx,hrun,Oper.upon_value];exact hK' _ _ (hK w' r1 r2)
theorem fr_len(a:Int)(S:List Sec):(fr a S).length+cnt a S=S.length:=by
 induction S with
 |nil=>rfl
 |cons s r ih=>
  unfold fr cnt at *;by_cases h:s.area=a
  · rw[List.filter_cons_of_neg (by simpa using h),List.filter_cons_of_pos (by simpa using h),List.length_cons,List.length_cons];omega
  · rw[List.filter_cons_of_pos (by simpa using h),List.filter_cons_of_neg (by simpa using h),List.length_cons,List.length_cons];omega
def Sh.free(sh:Sh)(a:Int):Sh:={ sh with L:=mdel a sh.L,F:=mdel a sh.F }
theorem rep_free{w:World}{sh:Sh}{S:List Sec}(hh:Held w sh)(h:Rep sh S)(a:Int):Rep (sh.free a) (fr a S):=by
 refine⟨fr_sorted h.sorted,fun a' n'=>?_,fun a' n'=>?_,fun s hs=>h.there s (List.mem_filter.1 hs).1⟩
 · show(mget a' (mdel a sh.L)).bind _=_
   rw[mget_mdel hh.hl.nodup,find_fr];by_cases e:a'=a
   · rw[if_pos e,if_pos e];rfl
   · rw[if_neg e,if_neg e];exact h.last a' n'
 · rw[fget_eq]
   show(((mget a' (mdel a sh.F)).bind _).map FS.vs).getD []=_;rw[mget_mdel hh.hf.nodup,find_fr];by_cases e:a'=a
   · rw[if_pos e,if_pos e];rfl
   · rw[if_neg e,if_neg e]
     have:=h.fresh a' n';rw[fget_eq]at this;exact this
theorem free_blocks(sh:Sh)(a:Int):(sh.free a).blocks.Sublist sh.blocks:=by
 unfold Sh.blocks Sh.free;refine((List.Sublist.append ?_ ?_).cons_cons _).cons_cons _
 · exact(mdel_sub a sh.L).map _
 · have:∀F:List (Int×Nat×List (Int×FS)),(Sh.fblocks (mdel a F)).Sublist (Sh.fblocks F):=by
    intro F
    induction F with
    |nil=>exact List.Sublist.refl _
    |cons x r ih=>
     by_cases e:x.1=a
     · rw[mdel,if_pos e]
       exact List.sublist_append_right _ _
     · rw[mdel,if_neg e]
       exact List.Sublist.append (List.Sublist.refl _) ih
   exact this sh.F
theorem held_free{p:Nat}{sh:Sh}{W W1 W2 W3:World}{a:Int}(hh:Held W sh)(hn:(p::sh.blocks).Nodup)(ho1:OneD p W W1)(hl:MapAt .u64 inV W2 sh.lb (mdel a sh.L))(ho2:One sh.lb W1 W2)(hf:MapAt .u64 inV W3 sh.fb (mdel a sh.F))(ho3:One sh.fb W2 W3):
 Held W3 (sh.free a)∧(p::(sh.free a).blocks).Nodup∧(∀b∈p::(sh.free a).blocks,b∈p::sh.blocks)∧Only (p::sh.blocks) W W3∧W3.heap[p]?=W1.heap[p]?:=by
 have hsub:=free_blocks sh a;have hn0:=hn;simp only[Sh.blocks,List.nodup_cons,List.mem_cons,List.mem_append,not_or,List.nodup_append]at hn;obtain⟨⟨p1,p2,p3,p4⟩,⟨l1,l2,l3⟩,⟨f1,f2⟩,nl,nf,nlf⟩:=hn;have far:∀k,k≠p→k≠sh.lb→k≠sh.fb→W3.heap[k]?=W.heap[k]?:=fun k h1 h2 h3=>(ho3.block k h3).trans ((ho2.block k h2).trans (ho1.block k h1))
 have lsub:=(mdel_sub a sh.L).subset;have fsub:=(mdel_sub a sh.F).subset;refine⟨⟨hl.same (ho3.block _ l1),hf,fun q hq=>?_,fun q hq=>?_⟩,?_,?_,?_,?_⟩
 · obtain⟨k1,k2⟩:=hh.hli q (lsub hq)
   have hm:=mem_lblocks (lsub hq);exact⟨k1.same (far _ (fun e=>p3 (e▸hm)) (fun e=>l2 (e▸hm)) (fun e=>f1 (e▸hm))),k2⟩
 · obtain⟨k1,k2,k3⟩:=hh.hfi q (fsub hq)
   have hm:=mem_fblocks (fsub hq);refine⟨k1.same (far _ (fun e=>p4 (e▸hm)) (fun e=>l3 (e▸hm)) (fun e=>f2 (e▸hm))),fun s hs=>?_,k3⟩;have hm2:=mem_fblocks2 (fsub hq) hs;exact(k2 s hs).same (far _ (fun e=>p4 (e▸hm2)) (fun e=>l3 (e▸hm2)) (fun e=>f2 (e▸hm2)))
 · exact(hsub.cons_cons p).nodup hn0
 · exact(hsub.cons_cons p).subset
 · refine⟨ho3.os.trans (ho2.os.trans ho1.os),ho3.tape.trans (ho2.tape.trans ho1.tape),ho3.output.trans (ho2.output.trans ho1.output),Nat.le_of_eq (by rw[ho3.size,ho2.size,ho1.size]),fun k _ hk=>far k (fun e=>hk (e ▸ .head _)) (fun e=>hk (e ▸ .tail _ (.head _))) (fun e=>hk (e ▸ .tail _ (.tail _ (.head _))))⟩
 · exact(ho3.block _ p2).trans (ho2.block _ p1)
theorem below_only{fp:List Nat}{a b c:World}(h:Only fp a b)(k:Below b.heap.size b c):Only fp a c:=h.then (Only.of_below (fp:=fp) k) fun _ hx=>hx
set_option maxHeartbeats 4000000 in
theorem Free_any(N:Nat)(p:Nat)(d:DS)(fp:List Nat)(a:Int)(w:World)(h:DiskAt N w p d fp)(hN:N<1099511627776):
 Calls Tryz.prog 27 #[.pointer (some ⟨p,0,none⟩),.int .u64 a] w (FreeSays N p d fp a w):=by
 have HD:Hid (DiskAt N w p d fp):=h;clear h;by_cases he:stepE d=0
 · have HE:Hid (stepE d=0):=he
   (have HS:Hid (∀w0,DiskAt N w0 p d fp→Calls Tryz.prog 52 #[.pointer (some ⟨p,0,none⟩)] w0 fun x w'=>x = .returned (.int .i64 0)∧DiskAt (N+1) w' p (stepD d) fp∧One p w0 w'):=fun w0 h0=>(step_any N p d fp w0 h0 (by omega)).mono (by rintro e w' ⟨rfl,h1,h2⟩;exact⟨by rw[HE.out],h1,h2⟩));clear he;go_enter Tryz.func27,Tryz.ntmps27;go_wp2_with fail;refine(HS.out w HD.out).mono ?_;rintro e w1 ⟨rfl,hd1,ho1⟩;have HD1:Hid (DiskAt (N+1) w1 p (stepD d) fp):=hd1;have HO1:Hid (One p w w1):=ho1;clear hd1 ho1;go_wp2_with fail;(have hdr:DiskAt (N+1) w1.drew p (stepD d) fp:=HD1.out.same fun _ _=>rfl);obtain⟨lb,fb,hb⟩:=hdr.cells;have hc1:w1.drew.cell? ⟨p,1,none⟩=some (.int .i64 ((stepD d).secs.length:Int)):=(disk_cells hb).2.1;have hbd:=HD1.out.bounds.2.2.2.2.1;have hcn:cnt a (stepD d).secs≤(stepD d).secs.length:=List.length_filter_le _ _;have hpl:p<w1.heap.size:=HD1.out.lt p HD1.out.mem;clear hb;generalize ht:(stepD d).secs.length=t at *;have HT:Hid ((stepD d).secs.length=t):=ht;generalize hc:cnt a (stepD d).secs=c at *;have HC:Hid (cnt a (stepD d).secs=c):=hc;have HDR:Hid (DiskAt (N+1) w1.drew p (stepD d) fp):=hdr;clear ht hc hdr;have HCt:Hid (∀w0,DiskAt (N+1) w0 p (stepD d) fp→Calls Tryz.prog 54 #[.pointer (some ⟨p,0,none⟩),.int .u64 a] w0 fun e w'=>e = .returned (.int .i64 (c:Int))∧Below w0.heap.size w0 w'):=fun w0 h0=>by
    have:=count_any (N+1) p (stepD d) fp a w0 h0 (by omega);rw[HC.out]at this;exact this
   refine region_at (S:=fun _=>True) 11 rfl (by kernel_rfl) trivial (fun hHeld=>?_);refine tq4 id 0 11 1 12 2 13 4 15 ?_;simp only[sZa,sZb,sZc];refine tq id 5 16 ?_;simp only[sZa,sZb,sZc];refine two_at (i:=3) (j:=6) 14 17 (by kernel_rfl) rfl rfl rfl rfl (by rfl) (by rfl) (fun K hK=>?_) (fun K hK=>?_)
   · refine wp_val (v := .int .i64 (t:Int)) (w':=w1.drew) (by go_simp) (hK _ _ trivial (fun hHeld=>?_))
     simp only[sZa,sZb,sZc];refine one_call (i:=6) (w0:=w1.drew) 17 54 #[.pointer (some ⟨p,0,none⟩),.int .u64 a] (by kernel_rfl) rfl rfl (by rfl) (by kernel_rfl) ?_;refine(HCt.out _ HDR.out).mono ?_;rintro e w2 ⟨rfl,hb2⟩;refine⟨_,rfl,trivial,fun hHeld=>?_⟩;simp only[sZa,sZb,sZc];have hd2:DiskAt (N+1) w2 p (stepD d) fp:=HDR.out.below hb2;obtain⟨sh,k1,k2,k3,k4,k5,k6⟩:=hd2;have hfz:w2.frozen? ⟨p,1,none⟩=false:=(disk_cells k1).2.2.2.2.2.2.2.2 1;have hcc:w2.cell? ⟨p,1,none⟩=some (.int .i64 (t:Int)):=(hb2.cell (p:=⟨p,1,none⟩) hpl).trans hc1;(have hwr:IntKind.i64.wrap ((t:Int)-(c:Int))=(t:Int)-(c:Int):=by simp[IntKind.wrap,IntKind.bits,IntKind.signed];omega);refine tq2 id 7 18 8 19 ?_;simp only[sZa,sZb,sZc];refine tq id 9 20 ?_;simp only[sZa,sZb,sZc];refine one_skip (i:=10) (w':=w2.setCell ⟨p,1,none⟩ (.int .i64 ((t:Int)-(c:Int)))) (by kernel_rfl) rfl rfl (by rfl) (by go_simp) trivial (fun hHeld=>?_);refine wpAnyH_done (by kernel_rfl) ?_ _;rw[k4]at k5;have HOs:One p w2 (w2.setCell ⟨p,1,none⟩ (.int .i64 ((t:Int)-(c:Int)))):=one_setCell _ _ _ _;have hk':(w2.setCell ⟨p,1,none⟩ (.int .i64 ((t:Int)-(c:Int)))).heap[p]?=some (dC (stepD d).room ((t:Int)-(c:Int)) (stepD d).steps (stepD d).dead (stepD d).armed (stepD d).ahead sh.lb sh.fb):=by
      rw[set_cell k1 1 _];rfl
     have K5:Hid ((p::sh.blocks).Nodup):=k5;have K2:Hid (Held w2 sh):=k2;have K3:Hid (Rep sh (stepD d).secs):=k3;have K4:Hid (fp=p::sh.blocks):=k4;have HO2:Hid (Only fp w w2):=below_only (Only.of_one HO1.out HD.out.mem) ⟨hb2.os,hb2.tape,hb2.output,hb2.size,hb2.block⟩;have HK:Hid _:=hk';have HX:Hid (OneD p w2 (w2.setCell ⟨p,1,none⟩ (.int .i64 ((t:Int)-(c:Int))))):=HOs.d;obtain⟨c0,c1,c2,c3,c4,c5,c6,c7,hz⟩:=disk_cells hk';have HL:Hid (MapAt .u64 inV (w2.setCell ⟨p,1,none⟩ (.int .i64 ((t:Int)-(c:Int)))) sh.lb sh.L):=k2.hl.same (HOs.block _ fun e=>(List.nodup_cons.1 k5).1 (e ▸ .head _));clear k1 k2 k3 k4 k5 k6 hcc hfz hk' HOs hb2 hwr;generalize w2.setCell ⟨p,1,none⟩ (.int .i64 ((t:Int)-(c:Int)))=w3 at *;go_wp2_with (at_delete;refine wpList_delete HL.out rfl _ _ _ _ _ rfl Tryz.underlying70 Tryz.underlying22 a rfl rfl ?_);intro w4 hl4 ho4;have n5:=K5.out;simp only[Sh.blocks,List.nodup_cons,List.mem_cons,not_or]at n5;have c7':w4.cell? ⟨p,7,none⟩=some (.map (some sh.fb)):=(World.cell?_of_block (w:=w3) (a:=⟨p,7,none⟩) (ho4.block p n5.1.1)).trans c7;have HF:Hid (MapAt .u64 inV w4 sh.fb sh.F):=(K2.out.hf.same (HX.out.block _ (fun e=>n5.1.2.1 e.symm))).same (ho4.block _ (fun e=>n5.2.1.1 e.symm));have HL4:Hid (MapAt .u64 inV w4 sh.lb (mdel a sh.L)):=hl4;have HO4:Hid (One sh.lb w3 w4):=ho4;clear n5 hl4 ho4 c0 c1 c2 c3 c4 c5 c6 c7 hz;go_wp2_with (at_delete;refine wpList_delete HF.out rfl _ _ _ _ _ rfl Tryz.underlying71 Tryz.underlying22 a rfl rfl ?_);intro w5 hf5 ho5;obtain⟨r1,r2,r3,r4,r5⟩:=held_free K2.out K5.out HX.out HL4.out HO4.out hf5 ho5;go_wp2_with fail;go_ret;obtain⟨b1,b2,b3,b4,b5,b6,b7,b8,b9,b10⟩:=HD1.out.bounds;have hfl:=fr_len a (stepD d).secs;have e1:=HT.out;have e2:=HC.out;refine⟨by rw[frE,HE.out];rfl,p::(sh.free a).blocks,?_,HO2.out.then r4 (fun x hx=>by rw[K4.out];exact hx),fun b hb=>by rw[K4.out];exact r3 b hb⟩;rw[frD,if_pos HE.out,←(stepD_secs d).1];refine⟨sh.free a,?_,r1,rep_free K2.out K3.out a,rfl,r2,b1,b2,b3,b4,?_,?_,fun s hs=>b7 s (List.mem_filter.1 hs).1,b8,b9,b10⟩
     · rw[r5,HK.out]
       (have e3:((t:Int)-(c:Int))=((fr a (stepD d).secs).length:Int):=by omega);rw[e3];rfl
     · show(fr a (stepD d).secs).length≤N+1
       omega
     · show((fr a (stepD d).secs).length:Int)≤(stepD d).room
       omega
   · refine wp_enter (w0:=w1.drew) 54 #[.pointer (some ⟨p,0,none⟩),.int .u64 a] (by kernel_rfl) ?_
     refine(HCt.out _ HDR.out).mono ?_;rintro e w2 ⟨rfl,hb2⟩;refine⟨_,rfl,hK _ _ trivial (fun hHeld=>?_)⟩;simp only[sZa,sZb,sZc];have hc2:w2.cell? ⟨p,1,none⟩=some (.int .i64 (t:Int)):=(hb2.cell (p:=⟨p,1,none⟩) hpl).trans hc1;refine one_value (i:=3) (v := .int .i64 (t:Int)) (w':=w2) 14 (by kernel_rfl) rfl rfl (by rfl) (by go_simp) trivial (fun hHeld=>?_);simp only[sZa,sZb,sZc];have hd2:DiskAt (N+1) w2 p (stepD d) fp:=HDR.out.below hb2;obtain⟨sh,k1,k2,k3,k4,k5,k6⟩:=hd2;have hfz:w2.frozen? ⟨p,1,none⟩=false:=(disk_cells k1).2.2.2.2.2.2.2.2 1;have hcc:w2.cell? ⟨p,1,none⟩=some (.int .i64 (t:Int)):=(hb2.cell (p:=⟨p,1,none⟩) hpl).trans hc1;(have hwr:IntKind.i64.wrap ((t:Int)-(c:Int))=(t:Int)-(c:Int):=by simp[IntKind.wrap,IntKind.bits,IntKind.signed];omega);refine tq2 id 7 18 8 19 ?_;simp only[sZa,sZb,sZc];refine tq id 9 20 ?_;simp only[sZa,sZb,sZc];refine one_skip (i:=10) (w':=w2.setCell ⟨p,1,none⟩ (.int .i64 ((t:Int)-(c:Int)))) (by kernel_rfl) rfl rfl (by rfl) (by go_simp) trivial (fun hHeld=>?_);refine wpAnyH_done (by kernel_rfl) ?_ _;rw[k4]at k5;have HOs:One p w2 (w2.setCell ⟨p,1,none⟩ (.int .i64 ((t:Int)-(c:Int)))):=one_setCell _ _ _ _;have hk':(w2.setCell ⟨p,1,none⟩ (.int .i64 ((t:Int)-(c:Int)))).heap[p]?=some (dC (stepD d).room ((t:Int)-(c:Int)) (stepD d).steps (stepD d).dead (stepD d).armed (stepD d).ahead sh.lb sh.fb):=by
      rw[set_cell k1 1 _];rfl
     have K5:Hid ((p::sh.blocks).Nodup):=k5;have K2:Hid (Held w2 sh):=k2;have K3:Hid (Rep sh (stepD d).secs):=k3;have K4:Hid (fp=p::sh.blocks):=k4;have HO2:Hid (Only fp w w2):=below_only (Only.of_one HO1.out HD.out.mem) ⟨hb2.os,hb2.tape,hb2.output,hb2.size,hb2.block⟩;have HK:Hid _:=hk';have HX:Hid (OneD p w2 (w2.setCell ⟨p,1,none⟩ (.int .i64 ((t:Int)-(c:Int))))):=HOs.d;obtain⟨c0,c1,c2,c3,c4,c5,c6,c7,hz⟩:=disk_cells hk';have HL:Hid (MapAt .u64 inV (w2.setCell ⟨p,1,none⟩ (.int .i64 ((t:Int)-(c:Int)))) sh.lb sh.L):=k2.hl.same (HOs.block _ fun e=>(List.nodup_cons.1 k5).1 (e ▸ .head _));clear k1 k2 k3 k4 k5 k6 hcc hfz hk' HOs hb2 hwr;generalize w2.setCell ⟨p,1,none⟩ (.int .i64 ((t:Int)-(c:Int)))=w3 at *;go_wp2_with (at_delete;refine wpList_delete HL.out rfl _ _ _ _ _ rfl Tryz.underlying70 Tryz.underlying22 a rfl rfl ?_);intro w4 hl4 ho4;have n5:=K5.out;simp only[Sh.blocks,List.nodup_cons,List.mem_cons,not_or]at n5;have c7':w4.cell? ⟨p,7,none⟩=some (.map (some sh.fb)):=(World.cell?_of_block (w:=w3) (a:=⟨p,7,none⟩) (ho4.block p n5.1.1)).trans c7;have HF:Hid (MapAt .u64 inV w4 sh.fb sh.F):=(K2.out.hf.same (HX.out.block _ (fun e=>n5.1.2.1 e.symm))).same (ho4.block _ (fun e=>n5.2.1.1 e.symm));have HL4:Hid (MapAt .u64 inV w4 sh.lb (mdel a sh.L)):=hl4;have HO4:Hid (One sh.lb w3 w4):=ho4;clear n5 hl4 ho4 c0 c1 c2 c3 c4 c5 c6 c7 hz;go_wp2_with (at_delete;refine wpList_delete HF.out rfl _ _ _ _ _ rfl Tryz.underlying71 Tryz.underlying22 a rfl rfl ?_);intro w5 hf5 ho5;obtain⟨r1,r2,r3,r4,r5⟩:=held_free K2.out K5.out HX.out HL4.out HO4.out hf5 ho5;go_wp2_with fail;go_ret;obtain⟨b1,b2,b3,b4,b5,b6,b7,b8,b9,b10⟩:=HD1.out.bounds;have hfl:=fr_len a (stepD d).secs;have e1:=HT.out;have e2:=HC.out;refine⟨by rw[frE,HE.out];rfl,p::(sh.free a).blocks,?_,HO2.out.then r4 (fun x hx=>by rw[K4.out];exact hx),fun b hb=>by rw[K4.out];exact r3 b hb⟩;rw[frD,if_pos HE.out,←(stepD_secs d).1];refine⟨sh.free a,?_,r1,rep_free K2.out K3.out a,rfl,r2,b1,b2,b3,b4,?_,?_,fun s hs=>b7 s (List.mem_filter.1 hs).1,b8,b9,b10⟩
     · rw[r5,HK.out]
       (have e3:((t:Int)-(c:Int))=((fr a (stepD d).secs).length:Int):=by omega);rw[e3];rfl
     · show(fr a (stepD d).secs).length≤N+1
       omega
     · show((fr a (stepD d).secs).length:Int)≤(stepD d).room
       omega
 · have HE:Hid (stepE d≠0):=he
   (have hb:(stepE d != 0)=true:=by rw[bne_iff_ne];exact he);clear he;go_enter Tryz.func27,Tryz.ntmps27;go_wp2_with fail;refine(step_any N p d fp w HD.out (by omega)).mono ?_;rintro e w1 ⟨rfl,hd1,ho1⟩;have HD1:Hid (DiskAt (N+1) w1 p (stepD d) fp):=hd1;have HO1:Hid (One p w w1):=ho1;clear hd1 ho1;go_wp2_with fail;go_ret;exact⟨rfl,fp,by rw[frD,if_neg HE.out];exact HD1.out,Only.of_one HO1.out HD.out.mem,fun b hb=>hb⟩
end Go.Proofs.YthecngkdmnadoaaGreat
