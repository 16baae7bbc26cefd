import Derived.Test.YtkdhdehobdfakaaGreatDoorJ11
namespace Go.Proofs.YtkdhdehobdfakaaGreatDoor
open Go.RowKit Nums Ed Lv
set_option maxRecDepth 100000
def levC(v:Value)(bs:List Nat):Array Value:=(v::bs.map bv).toArray
structure LevAt(w:World)(p:Nat)(xs:List Int)(d:Nat):Prop where
 len:xs.length≤24
 few:d≤3
 ex:∃ad cap,w.heap[p]?=some (.cells (levC (.slice ad xs.length cap) (zFf xs.length d)) 165 (0,0))∧RunesAt w.heap.size w (.slice ad xs.length cap) xs
theorem LevAt.below{w w':World}{p:Nat}{xs:List Int}{d:Nat}(h:LevAt w p xs d)(hb:Below w.heap.size w w'):LevAt w' p xs d:=by
 obtain⟨h1,h2,ad,cap,hp,hr⟩:=h;exact⟨h1,h2,ad,cap,(hb.block p (Array.getElem?_eq_some_iff.1 hp).1).trans hp,(hr.below hb).mono hb.size⟩
theorem LevAt.lt{w:World}{p:Nat}{xs:List Int}{d:Nat}(h:LevAt w p xs d):p<w.heap.size:=by
 obtain⟨_,_,ad,cap,hp,_⟩:=h;exact(Array.getElem?_eq_some_iff.1 hp).1
theorem zFz{w:World}{p:Nat}{v:Value}{bs:List Nat}{t:TypeId}{f:Nat×Nat}(h:w.heap[p]?=some (.cells (levC v bs) t f)):w.rangeAt p 1 (bs.map bv):=by
 intro j u hj;simp only[World.cell?,h,levC];simpa[Nat.add_comm]using hj
theorem zRg{w:World}{p:Nat}{v:Value}{bs:List Nat}{t:TypeId}{f:Nat×Nat}(h:w.heap[p]?=some (.cells (levC v bs) t f)):w.cell? ⟨p,0,none⟩=some v:=by
 simp[World.cell?,h,levC]
theorem zEh(n d:Nat):(zFf n d).length=25:=zCy _
theorem zXv(n d:Nat){j:Nat}(h:j<25):(zFf n d).getD j 0=dd n d j:=zDq _ h
theorem lev_dead{w:World}{p:Nat}{v:Value}{n d:Nat}{t:TypeId}{f:Nat×Nat}(h:w.heap[p]?=some (.cells (levC v (zFf n d)) t f)){j:Nat}(hj:j<25):w.cell? ⟨p,1+j,none⟩=some (bv (dd n d j)):=by
 have:=zFz h j (bv (dd n d j)) (by rw[List.getElem?_map,zFf,zH7 _ hj];rfl);simpa using this
theorem zW5(bs:List Nat)(j:Nat)(hj:j<bs.length)(hl:bs.length=25)(w:World):(Instr.index 133 (rV bs) (.int .i64 (j:Int))).run Tryz.prog w = .ok (bv (bs.getD j 0)) w:=by
 obtain⟨i0,hi,hz0,hz1,hz2⟩:=info_parts infoB;have hsz:(sizeOf 5).run Tryz.prog w = .ok 1 w:=by simp[sizeOf,typeInfo,hi,hz1,Result.andThen]
 have hc:(rC bs)[j]?=some (bv (bs.getD j 0)):=by
  simp[rC,List.getD_eq_getElem?_getD,List.getElem?_eq_getElem hj]
 simp[Instr.index,rV,run_underlying Tryz.underlying133,asIntOf,part,hsz,hc,go_sem];omega
def min2(a b:Int):Int:=if b<a then b else a
theorem run_min2(ts:Array TypeId)(ty:TypeId)(k:IntKind)(a b:Int)(w:World):(Builtin.min_ ts ty #[.int k a,.int k b]).run Tryz.prog w = .ok (.int k (min2 a b)) w:=by
 simp[Builtin.min_,Builtin.min2,min2,Sem.run_pure]
attribute [local go_sem ↓] zA8 zCl zAz zA7 run_min2
attribute [local go_sem] zEp
set_option maxHeartbeats 1000000 in
theorem zLu(p:Nat)(xs:List Int)(d:Nat)(s:List Nat)(w:World)(h:LevAt w p xs d)(hs:s.length=25):
 Calls Tryz.prog 98 #[.pointer (some ⟨p,0,none⟩),rV s] w fun e w'=>e = .returned (rV (cutL xs.length d s))∧Below w.heap.size w w':=by
 obtain⟨hn,hd,ad,cap,hp,hr⟩:=h;have hpl:p<w.heap.size:=(Array.getElem?_eq_some_iff.1 hp).1;obtain⟨w2,hw2⟩:∃w2,(w.alloc (.cells (rC s) 133)).alloc (.cells (rC zeros) 133)=w2:=⟨_,rfl⟩;have A2:Hid (RAt w2 w.heap.size s):=hw2▸(RAt.new w _).old _;have C2:Hid (RAt w2 (w.heap.size+1) zeros):=by
  have:=RAt.new (w.alloc (.cells (rC s) 133)) zeros;rw[zBb]at this;exact hw2▸this
 have B2:Hid (Below w.heap.size w w2):=hw2▸((Below.refl _ w).alloc (Nat.le_refl _) _).alloc (by simp) _;have HW:Hid ((w.alloc (.cells (rC s) 133)).alloc (.cells (rC zeros) 133)=w2):=hw2;have hld:=zBl (zFz ((B2.out.block p hpl).trans hp)) (zEh xs.length d);clear hw2 hr hp;go_enter Tryz.func98,Tryz.ntmps98;go_wp2_with fail;rw[HW.out,hld];clear HW hld;go_wp2_with fail
 go_loopw [11] (fun v wr=>∃k:Nat,v = .int .i64 k∧k≤25∧RAt wr w.heap.size (cutK xs.length d s k)∧RAt wr (w.heap.size+1) zeros∧Below w.heap.size w wr) (fun v _=>25-(intOf v).toNat)
 case atStart=>exact⟨0,rfl,by omega,by rw[zXx hs];exact A2.out,C2.out,B2.out⟩
 case round=>
  clear A2 C2 B2;obtain⟨k,rfl,hk,hA,hC,hB⟩:=hrel;have HA:Hid (RAt wr w.heap.size (cutK xs.length d s k)):=hA;have HC:Hid (RAt wr (w.heap.size+1) zeros):=hC;have HB:Hid (Below w.heap.size w wr):=hB;have hwr:w.heap.size+1<wr.heap.size:=hC.lt;by_cases hk8:k<25
  · have hcell:=hA.cell (i:=k) (by rw[cutK_len];exact hk8)
    rw[cutK_get _ _ _ hk8]at hcell;have hfz:=hA.frozen k;(have hix:=fun w=>zW5 (zFf xs.length d) k (by rw[zEh];exact hk8) (zEh _ _) w);rw[zXv _ _ hk8]at hix;obtain⟨x,hx⟩:∃x,s.getD k 0=x:=⟨_,rfl⟩;obtain⟨y,hy⟩:∃y,dd xs.length d k=y:=⟨_,rfl⟩;have HM:Hid (min2 (x:Int) (y:Int)=(cutF xs.length d s k:Int)):=by
     unfold Hid min2 cutF;rw[hx,hy];split<;>omega
    rw[hx]at hcell;rw[hy]at hix;clear hA hC hB hx hy;go_wp2_with fail;rw[HM.out]
    go_roundw
    case rel=>
     refine⟨k+1,by go_num,by omega,?_,HC.out.off (by omega),HB.out.setCell (Nat.le_refl _) _⟩;rw[←zXy _ _ _ hk8];exact HA.out.set
    case measure=>simp[intOf];omega
  · obtain rfl:k=25:=by omega
    rw[cutK_end]at hA;have hld:=zBl hA.range (zDu xs.length d s);have hst:=zCo hC zBh (zDu xs.length d s);obtain⟨HP,HO⟩:=hC.put (ys:=cutL xs.length d s) (by rw[zDu,zBh]);have HBS:Hid (Below w.heap.size w (setR wr (w.heap.size+1) (cutL xs.length d s))):=HO.below hB (by omega);obtain⟨w5,hw5⟩:∃w5,setR wr (w.heap.size+1) (cutL xs.length d s)=w5:=⟨_,rfl⟩;rw[hw5]at hst HP HBS;have HST:Hid (RAt w5 (w.heap.size+1) (cutL xs.length d s)):=HP;clear hA hC hB HA HC HB hw5 HO HP;go_wp2_with fail;exact zO0 Tryz.results98 rfl (zDu _ _ _) HST.out rfl ⟨rfl,HBS.out⟩
set_option maxHeartbeats 1000000 in
theorem zYt(p:Nat)(xs:List Int)(d:Nat)(w:World)(h:LevAt w p xs d):
 Calls Tryz.prog 63 #[.pointer (some ⟨p,0,none⟩)] w fun e w'=>e = .returned (rV (zFo xs.length d))∧Below w.heap.size w w':=by
 have HL:Hid (LevAt w p xs d):=h;obtain⟨w2,hw2⟩:∃w2,(w.alloc (.cells (rC zeros) 133)).alloc (.cells (rC zeros) 133)=w2:=⟨_,rfl⟩;have A2:Hid (RAt w2 w.heap.size zeros):=hw2▸(RAt.new w _).old _;have C2:Hid (RAt w2 (w.heap.size+1) zeros):=by
  have:=RAt.new (w.alloc (.cells (rC zeros) 133)) zeros;rw[zBb]at this;exact hw2▸this
 have B2:Hid (Below w.heap.size w w2):=hw2▸((Below.refl _ w).alloc (Nat.le_refl _) _).alloc (by simp) _;have HW:Hid ((w.alloc (.cells (rC zeros) 133)).alloc (.cells (rC zeros) 133)=w2):=hw2;clear hw2 h;go_enter Tryz.func63,Tryz.ntmps63;go_wp2_with fail;rw[HW.out];clear HW
 go_loopw [5] (fun v wr=>∃k:Nat,v = .int .i64 k∧k≤25∧RAt wr w.heap.size zeros∧RAt wr (w.heap.size+1) (risK k)∧Below w.heap.size w wr) (fun v _=>25-(intOf v).toNat)
 case atStart=>exact⟨0,rfl,by omega,A2.out,by rw[zU4,←zKg];exact C2.out,B2.out⟩
 case round=>
  clear A2 C2 B2;obtain⟨k,rfl,hk,hA,hC,hB⟩:=hrel;have HA:Hid (RAt wr w.heap.size zeros):=hA;have HC:Hid (RAt wr (w.heap.size+1) (risK k)):=hC;have HB:Hid (Below w.heap.size w wr):=hB;have hwr:w.heap.size+1<wr.heap.size:=hC.lt;by_cases hk8:k<25
  · have hcell:=hC.cell (i:=k) (by rw[risK,zCy];exact hk8)
    have hfz:=hC.frozen k;(have hwk:(k:Int)%256=(k:Int):=by omega);clear hA hC hB;go_wp2_with fail
    go_roundw
    case rel=>
     refine⟨k+1,by go_num,by omega,HA.out.off (by omega),?_,HB.out.setCell (by show w.heap.size≤w.heap.size+1;omega) _⟩;rw[←zU5 hk8];exact HC.out.set
    case measure=>simp[intOf];omega
  · obtain rfl:k=25:=by omega
    rw[risK_end]at hC;have hld:=zBl hC.range (zCy _);have HL2:Hid (LevAt wr p xs d):=HL.out.below hB;have HA2:Hid (RAt wr w.heap.size zeros):=hA;have hB2:Hid (Below w.heap.size w wr):=hB;clear hA hC hB HA HC HB;go_wp2_with (go_at_call 98;refine(zLu p xs d _ _ HL2.out (zCy _)).mono ?_;rintro e w4 ⟨rfl,hb4⟩);have hC4:RAt w4 w.heap.size zeros:=HA2.out.below (by omega) hb4;have hst:=zCo hC4 zBh (zGk xs.length d);obtain⟨HP,HO⟩:=hC4.put (ys:=zFo xs.length d) (by rw[zGk,zBh]);have HBS:Hid (Below w.heap.size w (setR w4 w.heap.size (zFo xs.length d))):=HO.below (hB2.out.trans (hb4.mono (by omega))) (Nat.le_refl _);obtain⟨w5,hw5⟩:∃w5,setR w4 w.heap.size (zFo xs.length d)=w5:=⟨_,rfl⟩;rw[hw5]at hst HP HBS;have HST:Hid (RAt w5 w.heap.size (zFo xs.length d)):=HP;clear hC4 hw5 HO HP;rw[show cutL xs.length d (mk fun j=>j)=zFo xs.length d from rfl];rw[hst];go_wp2_with fail;exact zO0 Tryz.results63 rfl (zGk _ _) HST.out rfl ⟨rfl,HBS.out⟩
