import Derived.Test.YtkdhdehobdfakaaGreatDoorLvLev
namespace Go.Proofs.YtkdhdehobdfakaaGreatDoor
open Go.RowKit Nums Ed Lv
set_option maxRecDepth 100000
def bldR(P:Program)(v:Value)(w:World):Result Value:=(Instr.build 133 #[(0,v)]).run P w
theorem zNo(ρ:Operand→Value)(x:Operand)(dst:Option Tmp)(ty:TypeId)(pos:String)(af:Array Edge)(g:Option (Nat×Bool))(w:World):(execOp ρ ⟨dst,.build 133 #[(0,x)],ty,pos,af,g⟩).run Tryz.prog w=(bldR Tryz.prog (ρ x) w).andThen (fun v w' => .ok (.value v) w'):=by
 simp only[execOp,Sem.run_bind,bldR,Sem.run_pure,List.map_toArray,List.map_cons,List.map_nil]
theorem bldR_at(n:Nat)(w:World):bldR Tryz.prog (bv n) w = .ok (rV (zeros.set 0 n)) w:=by kernel_rfl
theorem zeros_nx(xs:List Int)(r:Int)(c:List Nat):zeros.set 0 (nx xs r c 0)=nxK xs r c 0:=by
 rw[zKg,zM8 _ _ (by decide),nxK];refine zBf fun j _=>?_
 by_cases h:j=0
 · subst h;simp
 · rw[if_neg h,if_neg (by omega)]
attribute [local go_sem ↓] zA8 zCl zAz zA7 zNo zKu
attribute [local go_sem] zEp
set_option maxHeartbeats 2000000 in
theorem Step_any(p:Nat)(xs:List Int)(d:Nat)(s:List Nat)(r:Int)(w:World)(h:LevAt w p xs d)(hs:s.length=25):
 Calls Tryz.prog 94 #[.pointer (some ⟨p,0,none⟩),rV s,.int .i32 r] w fun e w'=>e = .returned (rV (stepL xs d s r))∧Below w.heap.size w w':=by
 have hn:=h.len;have hd:=h.few;obtain⟨w2,hw2⟩:∃w2,(w.alloc (.cells (rC s) 133)).alloc (.cells (rC zeros) 133)=w2:=⟨_,rfl⟩;have A2:Hid (RAt w2 w.heap.size s):=hw2▸(RAt.new w _).old _;have C2:Hid (RAt w2 (w.heap.size+1) zeros):=by
  have:=RAt.new (w.alloc (.cells (rC s) 133)) zeros;rw[zBb]at this;exact hw2▸this
 have B2:Hid (Below w.heap.size w w2):=hw2▸((Below.refl _ w).alloc (Nat.le_refl _) _).alloc (by simp) _;have HW:Hid ((w.alloc (.cells (rC s) 133)).alloc (.cells (rC zeros) 133)=w2):=hw2;have L2:Hid (LevAt w2 p xs d):=h.below B2.out;have HL:Hid (LevAt w p xs d):=h;have hld:=zBl A2.out.range hs;have hs2:w.heap.size+1<w2.heap.size:=C2.out.lt;clear hw2 h;go_enter Tryz.func94,Tryz.ntmps94;go_wp2_with fail;rw[HW.out,hld];clear HW hld;go_wp2_with (go_at_call 98;refine(zLu p xs d _ _ L2.out hs).mono ?_;rintro e w3 ⟨rfl,hb3⟩);obtain⟨c,hc⟩:∃c,cutL xs.length d s=c:=⟨_,rfl⟩;have hcl:c.length=25:=by rw[←hc,zDu]
 have HC:Hid (cutL xs.length d s=c):=hc;have HCB:Hid (∀j,c.getD j 0≤d+1):=by unfold Hid;rw[←hc];exact zPd _ _ _
 rw[hc];have A3:RAt w3 w.heap.size s:=A2.out.below (by omega) hb3;have hst:=zCo A3 hs hcl;obtain⟨P4,O4⟩:=A3.put (ys:=c) (by rw[hcl,hs]);obtain⟨w4,hw4⟩:∃w4,setR w3 w.heap.size c=w4:=⟨_,rfl⟩;rw[hw4]at hst P4 O4;have hs3:=hb3.size;have hs4:=O4.size;have B4:Hid (Below w.heap.size w w4):=O4.below (B2.out.trans (hb3.mono (by omega))) (Nat.le_refl _);have R4:Hid (RAt w4 (w.heap.size+1) zeros):=(C2.out.below (by omega) hb3).same (O4.block _ (by omega));have HP4:Hid (RAt w4 w.heap.size c):=P4;have c0:=P4.cell (i:=0) (by omega);have L4:=HL.out.below B4.out;obtain⟨_,_,ad,cap,hp,hr⟩:=L4;have hlw:=zRg hp;have HRN:Hid (RunesAt w4.heap.size w4 (.slice ad xs.length cap) xs):=hr;obtain⟨x0,hx0⟩:∃x0,c.getD 0 0=x0:=⟨_,rfl⟩;obtain⟨n0,hn0⟩:∃n0,nx xs r c 0=n0:=⟨_,rfl⟩;have hx1:x0≤4:=by have:=HCB.out 0;omega
 have hw0:(n0:Int)=(x0:Int)+1:=by rw[←hn0,nx,hx0];omega
 rw[hx0]at c0;have hbl:=bldR_at n0 w4;unfold bv at hbl;rw[hw0]at hbl;have HZ:Hid (zeros.set 0 n0=nxK xs r c 0):=by unfold Hid;rw[←hn0];exact zeros_nx _ _ _
 rw[HZ.out]at hbl;have N5:Hid (RAt (w4.alloc (.cells (rC zeros) 133)) w4.heap.size zeros):=RAt.new _ _;have hst5:=zCo N5.out zBh (zGp xs r c 0);obtain⟨P6,O6⟩:=N5.out.put (ys:=nxK xs r c 0) (by rw[zGp,zBh]);obtain⟨w6,hw6⟩:∃w6,setR (w4.alloc (.cells (rC zeros) 133)) w4.heap.size (nxK xs r c 0)=w6:=⟨_,rfl⟩;rw[hw6]at hst5 P6 O6;obtain⟨nb,hnb⟩:∃nb,w4.heap.size=nb:=⟨_,rfl⟩;have hs6:w6.heap.size=nb+1:=by rw[O6.size,←hnb];simp
 rw[hnb]at hst5 P6 O6;have HB6:Hid (Below w.heap.size w w6):=O6.below (B4.out.alloc (by omega) _) (by omega);have HB46:Hid (Below nb w4 w6):=O6.below ((Below.refl nb w4).alloc (by omega) _) (Nat.le_refl _);have HA6:Hid (RAt w6 w.heap.size c):=HP4.out.below (by omega) HB46.out;have HR6:Hid (RAt w6 (w.heap.size+1) zeros):=R4.out.below (by omega) HB46.out;have HN6:Hid (RAt w6 nb (nxK xs r c 0)):=P6;have hlw6:w6.cell? ⟨p,0,none⟩=some (.slice ad xs.length cap):=(HB46.out.cell (p:=⟨p,0,none⟩) (by have:=HL.out.lt;show p<nb;omega)).trans hlw;have HX6:Hid (RunesAt nb w6 (.slice ad xs.length cap) xs):=(hnb▸HRN.out:RunesAt nb w4 _ xs).below HB46.out;have hnbw:w.heap.size+1<nb:=by omega
 have HNB:Hid (w4.heap.size=nb):=hnb;clear hs2 hs3 hs4 hs6 hw0 hc A3 P4 O4 hw4 A2 C2 B2 L2 hb3 hx0 hn0 hp hr hlw HRN HZ N5 P6 O6 hw6 hnb HP4 R4 HB46;rw[hst];clear hst;go_wp2_with fail;rw[HNB.out,hst5];clear hbl hst5 c0;go_wp2_with fail
 go_loopw [23] (fun v wr=>∃k:Nat,v = .int .i64 k∧k≤xs.length∧RAt wr w.heap.size c∧RAt wr nb (nxK xs r c k)∧RAt wr (w.heap.size+1) zeros∧RunesAt nb wr (.slice ad xs.length cap) xs∧Below w.heap.size w wr) (fun v _=>xs.length-(intOf v).toNat)
 case atStart=>exact⟨0,rfl,Nat.zero_le _,HA6.out,HN6.out,HR6.out,HX6.out,HB6.out⟩
 case round=>
  clear HA6 HN6 HR6 HX6 HB6 hlw6;obtain⟨k,rfl,hk,hA,hN,hR,hX,hB⟩:=hrel;have HA:Hid (RAt wr w.heap.size c):=hA;have HN:Hid (RAt wr nb (nxK xs r c k)):=hN;have HR:Hid (RAt wr (w.heap.size+1) zeros):=hR;have HX:Hid (RunesAt nb wr (.slice ad xs.length cap) xs):=hX;have HB:Hid (Below w.heap.size w wr):=hB;have hwr:nb<wr.heap.size:=hN.lt;by_cases hk8:k<xs.length
  · obtain⟨y,hy⟩:∃y,xs[k]?=some y:=⟨_,List.getElem?_eq_getElem hk8⟩
    obtain⟨gx,offx,rfl,hgx,hcx⟩:=HX.out.at hy;(have hyD:xs.getD k 0=y:=by rw[List.getD_eq_getElem?_getD,hy];rfl);obtain⟨q,hq⟩:∃q,q=k+1:=⟨_,rfl⟩;have HQ:Hid (q=k+1):=hq;have hA0:=hA.cell (i:=k) (by omega);have hA1:=hA.cell (i:=q) (by omega);have hN0:=hN.cell (i:=k) (by rw[zGp];omega);have hNq:=hN.cell (i:=q) (by rw[zGp];omega);have hNf:=hN.frozen q;rw[nxK_get _ _ _ (by omega)]at hN0;obtain⟨z,hz⟩:∃z,(nxK xs r c k).getD q 0=z:=⟨_,rfl⟩;obtain⟨c1,hc1⟩:∃c1,c.getD q 0=c1:=⟨_,rfl⟩;obtain⟨ck,hck⟩:∃ck,c.getD k 0=ck:=⟨_,rfl⟩;obtain⟨m,hm⟩:∃m,nx xs r c k=m:=⟨_,rfl⟩;(have b0:ck≤4:=by have:=HCB.out k;omega);(have b1:c1≤4:=by have:=HCB.out q;omega);(have b2:m≤5:=by have:=nx_le (xs:=xs) (r:=r) HCB.out k;omega);(have HUX:Hid (nx xs r c (k+1)=min (ck+if y=r then 0 else 1) (min (c1+1) (m+1))):=by unfold Hid;rw[nx,hck,hyD,←hq,hc1,hm]);rw[hck]at hA0;rw[hc1]at hA1;rw[hm]at hN0;rw[hz]at hNq;(have hw1:IntKind.u8.wrap ((c1:Int)+1)=(c1:Int)+1:=by rw[IntKind.wrap_u8];omega);(have hw2:IntKind.u8.wrap ((m:Int)+1)=(m:Int)+1:=by rw[IntKind.wrap_u8];omega);(have hw3:IntKind.u8.wrap ((ck:Int)+1)=(ck:Int)+1:=by rw[IntKind.wrap_u8];omega);(have hwq:IntKind.i64.wrap ((k:Int)+1)=(q:Int):=by rw[IntKind.wrap_i64];omega);(have hq25:(q:Int)<25:=by omega);(have hk25:(k:Int)<25:=by omega);clear hA hN hR hX hB hy hyD hq hz hc1 hck hm;by_cases e:y=r
    · obtain⟨u,hu⟩:∃u,nx xs r c (k+1)=u:=⟨_,rfl⟩
      have HUV:Hid (u=nx xs r c (k+1)):=hu.symm;have HU:Hid ((u:Int)=min3 (ck:Int) ((c1:Int)+1) ((m:Int)+1)):=by
       have:=HUX.out;rw[if_pos e]at this;unfold Hid min3
       split<;>split at*<;> omega
      subst e;have hS0:wr.drew.cell? ⟨w.heap.size,q,none⟩=some (bv c1)∧wr.drew.cell? ⟨nb,k,none⟩=some (bv m):=⟨hA1,hN0⟩;clear hu HUX;(go_upto_region 9 with fail);refine zBd (S:=fun W'=>W'.cell? ⟨w.heap.size,q,none⟩=some (bv c1)∧W'.cell? ⟨nb,k,none⟩=some (bv m)) 15 14 rfl zAr ?_;refine te4 id 0 36 1 37 2 38 3 39 ?_;simp only[sZa,sZb,sZc];refine te4 id 4 40 5 41 6 42 7 43 ?_;simp only[sZa,sZb,sZc];refine te4 id 8 44 9 45 10 46 11 47 ?_;simp only[sZa,sZb,sZc];refine te2 id 12 48 13 49 ?_;simp only[sZa,sZb,sZc];have hcq:=hNq;have hfq:=hNf;refine zA6 (w':=wr.drew.setCell ⟨nb,q,none⟩ (.int .u8 (min3 (ck:Int) ((c1:Int)+1) ((m:Int)+1)))) (by kernel_rfl) rfl rfl (by rfl) (by go_simp;first|done|exact rfl) (by kernel_rfl) ?_;rw[←HU.out];clear hcq hfq hNq hNf hS0;go_wp2_with fail
      go_roundw
      case rel=>
       refine⟨k+1,by rw[HQ.out],by omega,HA.out.off (by omega),?_,HR.out.off (by omega),HX.out.below ((Below.refl nb wr).drew.setCell (Nat.le_refl _) _),HB.out.drew.setCell (by show w.heap.size≤nb;omega) _⟩;rw[←zQ6 _ _ _ (by omega),←HUV.out,←HQ.out];exact HN.out.set
      case measure=>simp[intOf];have:=HQ.out;omega
    · obtain⟨u,hu⟩:∃u,nx xs r c (k+1)=u:=⟨_,rfl⟩
      have HUV:Hid (u=nx xs r c (k+1)):=hu.symm;have HU:Hid ((u:Int)=min3 ((ck:Int)+1) ((c1:Int)+1) ((m:Int)+1)):=by
       have:=HUX.out;rw[if_neg e]at this;unfold Hid min3
       split<;>split at*<;> omega
      (have hyr:(y==r)=false:=by simpa using e);have hS0:wr.drew.cell? ⟨w.heap.size,q,none⟩=some (bv c1)∧wr.drew.cell? ⟨nb,k,none⟩=some (bv m):=⟨hA1,hN0⟩;clear hu HUX e;(go_upto_region 9 with fail);refine zBd (S:=fun W'=>W'.cell? ⟨w.heap.size,q,none⟩=some (bv c1)∧W'.cell? ⟨nb,k,none⟩=some (bv m)) 15 14 rfl zAr ?_;refine te4 id 0 36 1 37 2 38 3 39 ?_;simp only[sZa,sZb,sZc];refine te4 id 4 40 5 41 6 42 7 43 ?_;simp only[sZa,sZb,sZc];refine te4 id 8 44 9 45 10 46 11 47 ?_;simp only[sZa,sZb,sZc];refine te2 id 12 48 13 49 ?_;simp only[sZa,sZb,sZc];have hcq:=hNq;have hfq:=hNf;refine zA6 (w':=wr.drew.setCell ⟨nb,q,none⟩ (.int .u8 (min3 ((ck:Int)+1) ((c1:Int)+1) ((m:Int)+1)))) (by kernel_rfl) rfl rfl (by rfl) (by go_simp;first|done|exact rfl) (by kernel_rfl) ?_;rw[←HU.out];clear hcq hfq hNq hNf hS0;go_wp2_with fail
      go_roundw
      case rel=>
       refine⟨k+1,by rw[HQ.out],by omega,HA.out.off (by omega),?_,HR.out.off (by omega),HX.out.below ((Below.refl nb wr).drew.setCell (Nat.le_refl _) _),HB.out.drew.setCell (by show w.heap.size≤nb;omega) _⟩;rw[←zQ6 _ _ _ (by omega),←HUV.out,←HQ.out];exact HN.out.set
      case measure=>simp[intOf];have:=HQ.out;omega
  · obtain rfl:k=xs.length:=by omega
    have hld:=zBl hN.range (zGp xs r c xs.length);have L8:Hid (LevAt wr p xs d):=HL.out.below hB;clear hA hN hR hX hB;go_wp2_with (go_at_call 98;refine(zLu p xs d _ _ L8.out (zGp _ _ _ _)).mono ?_;rintro e w8 ⟨rfl,hb8⟩);rw[show cutL xs.length d (nxK xs r c xs.length)=stepL xs d s r by rw[stepL,HC.out]];have hR8:RAt w8 (w.heap.size+1) zeros:=HR.out.below (by omega) hb8;have hst:=zCo hR8 zBh (zHx xs d s r);obtain⟨HP,HO⟩:=hR8.put (ys:=stepL xs d s r) (by rw[zHx,zBh]);have HBS:Hid (Below w.heap.size w (setR w8 (w.heap.size+1) (stepL xs d s r))):=HO.below (HB.out.trans (hb8.mono (by omega))) (by omega);obtain⟨w9,hw9⟩:∃w9,setR w8 (w.heap.size+1) (stepL xs d s r)=w9:=⟨_,rfl⟩;rw[hw9]at hst HP HBS;have HST:Hid (RAt w9 (w.heap.size+1) (stepL xs d s r)):=HP;clear hR8 hw9 HO HP;rw[hst];go_wp2_with fail;exact zO0 Tryz.results94 rfl (zHx _ _ _ _) HST.out rfl ⟨rfl,HBS.out⟩
