import Derived.Test.YtobjpljdgieklaaGreatDoorJ17
import Derived.Test.YtobjpljdgieklaaGreatDoorJ16
import Derived.Test.YtobjpljdgieklaaGreatDoorJ30
import Derived.LoopIn
import Derived.TacticsInMore
import Derived.OwnWalkIn
import Derived.Test.YtobjpljdgieklaaGreatDoorJ39
import Derived.Test.YtobjpljdgieklaaGreatDoorJ12
set_option maxRecDepth 100000
namespace Go.Proofs.YtobjpljdgieklaaGreatDoor
section
open Go.RowKit Nums Fm Pk Fz
attribute [local go_sem] Oper.semAt_some
def arcW(a:RArc):Value := .agg #[.int .i32 a.label,.int .i64 a.out,.int .i64 a.to]
def zArc:RArc:=⟨0,0,0⟩
structure BkAt(bx:Nat)(ad:Option Addr)(cap:Nat)(l:List RArc)(W:World):Prop where
 box:W.cell? ⟨bx,0,none⟩=some (.slice ad l.length cap)
 row:∃E,ArcsAt E W (.slice ad l.length cap) l
theorem zN4(ad:Option Addr)(n cap:Nat)(w:World):Calls Tryz.prog 114 #[.slice ad n cap] w fun e w'=>e = .returned (.func (.func 152) #[] #[.pointer (some ⟨w.heap.size,0,none⟩)])∧w'=w.alloc (.cells #[.slice ad n cap] 89):=by
 go_enter Tryz.func114,Tryz.ntmps114;go_wp2;go_ret;exact⟨rfl,rfl⟩
set_option maxHeartbeats 1000000 in
theorem back_seq(bx:Nat)(ad:Option Addr)(cap:Nat)(l:List RArc)(hl:l.length≤9223372036854775807):
 SeqB 152 #[.pointer (some ⟨bx,0,none⟩)] (fun k=>#[.int .i64 ((l.length-1-k:Nat):Int),arcW (l.getD (l.length-1-k) zArc)]) l.length (BkAt bx ad cap l):=by
 intro yl J W hT hy h0;have hb0:=(hT 0 W h0).box;obtain⟨n,hn⟩:∃n,l.length=n:=⟨_,rfl⟩;have HT:Hid (∀k W,J k W→BkAt bx ad cap l W):=hT;have HY:Hid (∀k W,k<n→J k W→YieldAt Fence.wide 0 Tryz.prog yl #[.int .i64 ((n-1-k:Nat):Int),arcW (l.getD (n-1-k) zArc)] W fun e W'=>e = .returned (.bool true)∧J (k+1) W'):=by
  have:=hy;rw[hn]at this;exact this
 have HN:Hid (l.length=n):=hn;rw[hn]at hb0 hl ⊢;clear hT hy hn;have hdd:∀k:Nat,(Fence.wide.depth.isSome=true→1≤k):=fun k h=>by simp[Fence.wide]at h
 refine(callsIn_wide (n:=1)).1 ?_;refine callsIn_of_wp Tryz.func152 rfl trivial ?_ rfl;simp only[Tryz.ntmps152,List.size_toArray,List.length_cons,List.length_nil,Nat.reduceAdd,Nat.reduceSub,Array.replicate_succ,Array.replicate_zero,List.push_toArray,List.append_toArray,List.nil_append,List.cons_append];have hw1:IntKind.i64.wrap ((n:Int)-1)=(n:Int)-1:=by rw[IntKind.wrap_i64];omega
 gi_wp2
 gi_loopw [3] (fun v wr=>∃k:Nat,k≤n∧v = .int .i64 ((n:Int)-1-(k:Int))∧J k wr) (fun v _=>(intOf v+1).toNat)
 case atStart=>exact⟨0,Nat.zero_le _,by first|rfl|(congr 1;omega)|simp,h0⟩
 case round=>
  obtain⟨k,hk,rfl,hJ⟩:=hrel;by_cases hkn:k<n
  · obtain⟨m,hm⟩:∃m,m=n-1-k:=⟨_,rfl⟩
    (have hmi:(n:Int)-1-(k:Int)=(m:Int):=by omega);have hB:=HT.out k wr hJ;have hbx:=hB.box;obtain⟨E,hrow⟩:=hB.row;rw[HN.out]at hbx hrow;obtain⟨x,hx⟩:∃x,l[m]?=some x:=⟨_,List.getElem?_eq_getElem (by have:=HN.out;omega)⟩;obtain⟨g,off,rfl,_,c0,c1,c2⟩:=hrow.at hx;obtain⟨fn,tmps,assign,body,hyy,hRr⟩:=HY.out k wr hkn hJ;rw[←hm,List.getD_eq_getElem?_getD,hx,Option.getD_some]at hyy;simp only[arcW]at hyy;rw[hmi];(have hm0:(m:Int)<(n:Int):=by omega);(have hw2:IntKind.i64.wrap ((m:Int)-1)=(m:Int)-1:=by rw[IntKind.wrap_i64];omega);(have HM:Hid (m+k+1=n):=by show m+k+1=n;omega);clear hB hrow hmi hm hx
    gi_wp2
    refine hRr.mono ?_;rintro e W3 ⟨rfl,hJ3⟩
    gi_wp2
    go_roundw
    (case rel=>exact⟨k+1,by omega,by have:=HM.out;congr 1;omega,hJ3⟩);case measure=>first|(simp[intOf];done)|(simp[intOf];omega)
  · have hkn2:k=n:=by omega
    (have hneg:(n:Int)-1-(k:Int)<0:=by omega);rw[hkn2]at hJ;(have hz:(n:Int)-1-(k:Int) = -1:=by omega);rw[hz];clear hneg hz hkn hk
    gi_wp2
    go_end0
    exact⟨⟨_,rfl⟩,hJ⟩
set_option maxHeartbeats 1000000 in
theorem zM0(t:List Int)(r:Int)(w:World)(hT:Tabs w)(h1:allR t=true)(h2:allR [r]=true)(ht:t.length≤24):Calls Tryz.prog 118 #[.string (zAv t),.int .i32 r] w fun e w'=>e = .returned (.string (zAv (t++[r])))∧Below w.heap.size w w':=by
 have HE:Hid (zAv (t++[r])=zAv t++zAv [r]):=zR1 h1 h2;have hsz1:=zL8 t;have hsz2:=zL8 [r];obtain⟨tx,htx⟩:∃tx,zAv t=tx:=⟨_,rfl⟩;rw[htx]at HE hsz1 ⊢;have HC:Hid (∀T,Calls Tryz.prog 153 #[.slice (some ⟨w.heap.size,0,none⟩) 1 1] (w.alloc (.cells #[.int .i32 r] T)) fun e w'=>e = .returned (.tuple #[.string (zAv [r]),.bool (allR [r])])∧Below (w.alloc (.cells #[.int .i32 r] T)).heap.size (w.alloc (.cells #[.int .i32 r] T)) w'):=fun T=>by
  have hb:Below w.heap.size w (w.alloc (.cells #[.int .i32 r] T)):=(Below.refl _ w).alloc (Nat.le_refl _) _;refine zLu _ [r] _ (hT.below hb) ⟨some ⟨w.heap.size,0,none⟩,1,rfl,fun _=>⟨w.heap.size,0,rfl,fun i hi=>?_⟩⟩ (by simp);have:i=0:=by simp at hi;omega
  subst this;simp
 obtain⟨tr,htr⟩:∃tr,zAv [r]=tr:=⟨_,rfl⟩;rw[htr]at HE HC hsz2;have hsz:¬9223372036854775807<tx.size+tr.size:=by simp at hsz2;omega
 clear htx htr h1 hsz1 hsz2 ht;go_enter Tryz.func118,Tryz.ntmps118;go_wp2_with (go_at_call 153;refine(HC.out _).mono ?_;rintro e w1 ⟨rfl,hb1⟩);go_ret;exact⟨by rw[HE.out];rfl,((Below.refl _ w).alloc (Nat.le_refl _) _).trans (hb1.mono (by simp))⟩
end
section
open Go.RowKit Nums Ed Lv
def bldL(P:Program)(v:Value)(w:World):Result Value:=(Instr.build 178 #[(0,v)]).run P w
theorem zM7(ρ:Operand→Value)(x:Operand)(dst:Option Tmp)(ty:TypeId)(pos:String)(af:Array Edge)(g:Option (Nat×Bool))(w:World):(execOp ρ ⟨dst,.build 178 #[(0,x)],ty,pos,af,g⟩).run Tryz.prog w=(bldL Tryz.prog (ρ x) w).andThen (fun v w' => .ok (.value v) w'):=by
 simp only[execOp,Sem.run_bind,bldL,Sem.run_pure,List.map_toArray,List.map_cons,List.map_nil]
def levV(v:Value)(bs:List Nat):Value := .agg (levC v bs)
theorem bldL_at(ad:Option Addr)(n c:Nat)(w:World):bldL Tryz.prog (.slice ad n c) w = .ok (levV (.slice ad n c) zeros) w:=by kernel_rfl
theorem zSx(ρ:Operand→Value)(x:Operand)(dst:Option Tmp)(ty:TypeId)(pos:String)(af:Array Edge)(g:Option (Nat×Bool))(w:World):(execOp ρ ⟨dst,.box 178 x,ty,pos,af,g⟩).run Tryz.prog w = .ok (.value (.pointer (some ⟨w.heap.size,0,none⟩))) (w.alloc (.cells (celV (ρ x)) 178)):=by
 simp only[execOp,Sem.run_bind,Instr.box,newVar,newRow];rfl
theorem zSp(v:Value)(bs:List Nat):celV (levV v bs)=levC v bs:=rfl
def rightB(l:List UInt8)(e:Int):Bool:=zAp l&&decide (0≤e)&&decide (e≤3)
theorem zN9{l:List UInt8}(h:zAp l=true):∃xs,rs l=some xs∧1≤xs.length∧xs.length≤24:=by
 unfold zAp at h;cases e:rs l with
 |none=>rw[e]at h;cases h
 |some xs=>rw[e]at h;simp at h;exact⟨xs,rfl,by omega,by omega⟩
def zIj(d k:Nat):List Nat:=mk fun j=>if j<k then d+1 else 0
theorem zS0(d:Nat):zIj d 0=zeros:=by rw[zKc];exact zBd fun j _=>by simp
theorem zXa(n d:Nat):zIj d (n+1)=zFa n d:=zBd fun j _=>by
 unfold dd;by_cases h:j≤n
 · rw[if_pos h,if_pos (by omega)]
 · rw[if_neg h,if_neg (by omega)]
theorem zS1(d:Nat){k:Nat}(h:k<25):(zIj d k).set k (d+1)=zIj d (k+1):=by
 rw[zIj,zMp _ _ h];refine zBd fun j _=>?_
 by_cases h1:j=k
 · subst h1;simp
 · rw[if_neg h1]
   by_cases h2:j<k
   · rw[if_pos h2,if_pos (by omega)]
   · rw[if_neg h2,if_neg (by omega)]
theorem lev_set{w:World}{p k x:Nat}{v:Value}{bs:List Nat}{t:TypeId}{f:Nat×Nat}(h:w.heap[p]?=some (.cells (levC v bs) t f)):(w.setCell ⟨p,1+k,none⟩ (bv x)).heap[p]?=some (.cells (levC v (bs.set k x)) t f):=by
 simp only[World.setCell,Array.getElem?_modify,h];simp[levC,List.map_set,Nat.add_comm 1 k]
def zYi(w w':World)(l:List UInt8)(e:Int)(v:Value)(c:Int):Prop:=
 Below w.heap.size w w'∧((rightB l e=false∧v = .pointer none∧c=110)∨(rightB l e=true∧c=0∧∃p xs d,v = .pointer (some ⟨p,0,none⟩)∧w.heap.size≤p∧rs l=some xs∧e=(d:Nat)∧LevAt w' p xs d))
theorem zYe(s:ByteArray)(xs:List Int)(w:World)(ht:Tabs w)(hm:s.size≤9223372036854775807)(hroom:Room s.data.toList)(hx:rs s.data.toList=some xs):
 Calls Tryz.prog 71 #[.string s] w fun e w'=>∃v,e = .returned (.tuple #[v,.bool true])∧Below w.heap.size w w'∧Made w.heap.size w' v xs:=by
 refine(zF9 s w ht hm hroom).mono ?_;rintro e w' ⟨v,hb,⟨hno,_,_⟩|⟨ys,hys,rfl,hmade⟩⟩
 · rw[hno]at hx;cases hx
 · obtain rfl:ys=xs:=Option.some.inj (hys.symm.trans hx)
   exact⟨v,rfl,hb,hmade⟩
attribute [local go_sem ↓] zM7 zSx
attribute [local go_sem] zSp
set_option maxHeartbeats 1000000 in
theorem New_any(s:ByteArray)(e:Int)(w:World)(ht:Tabs w)(hm:s.size≤9223372036854775807):
 Calls Tryz.prog 73 #[.string s,.int .i64 e] w fun x w'=>∃v c,x = .returned (.tuple #[v,.int .i64 c])∧zYi w w' s.data.toList e v c:=by
 by_cases hr:rightB s.data.toList e=true
 · have HR:Hid (rightB s.data.toList e=true):=hr
   have hh:=hr;simp only[rightB,Bool.and_eq_true,decide_eq_true_eq]at hh;obtain⟨⟨hw,h0⟩,h3⟩:=hh;have HWD:Hid (zAp s.data.toList=true):=hw;obtain⟨xs,hxs,hx1,hx24⟩:=zN9 hw;have HXS:Hid (rs s.data.toList=some xs):=hxs;have HROOM:Hid (Room s.data.toList):=zDn hxs (by omega);obtain⟨d,rfl⟩:∃d:Nat,e=(d:Int):=⟨e.toNat,by omega⟩;clear hr hw hxs;go_enter Tryz.func73,Tryz.ntmps73;(go_upto_region 3 with(go_at_call 56;refine(zB5 s _ ht hm).mono ?_;rintro e w1 ⟨rfl,hw1⟩;rw[HWD.out]));(have hb1:Below w.heap.size w w1:=by obtain⟨n,rfl⟩:=hw1;exact below_drewN (Below.refl _ _) n);have ht1:Tabs w1:=ht.below hb1;clear hw1;(go_upto_region 4 with(go_at_call 71;refine(zYe s xs _ ht1 hm HROOM.out HXS.out).mono ?_;rintro e w2 ⟨v,rfl,hb2,hmade⟩));have hb12:Below w.heap.size w w2:=hb1.trans (hb2.mono hb1.size);have HX2:Hid (RunesAt w2.heap.size w2 v xs):=hmade.runesE;obtain⟨ad,cap,rfl⟩:=HX2.out.form;have hbl:=bldL_at ad xs.length cap w2;have HP3:Hid ((w2.alloc (.cells (levC (.slice ad xs.length cap) zeros) 178)).heap[w2.heap.size]?=some (.cells (levC (.slice ad xs.length cap) zeros) 178 (0,0))):=zBm _ _;have HB3:Hid (Below w.heap.size w (w2.alloc (.cells (levC (.slice ad xs.length cap) zeros) 178))):=hb12.alloc hb12.size _;have HBB:Hid (Below w2.heap.size w2 (w2.alloc (.cells (levC (.slice ad xs.length cap) zeros) 178))):=(Below.refl _ _).alloc (Nat.le_refl _) _;have HX3:Hid (RunesAt w2.heap.size (w2.alloc (.cells (levC (.slice ad xs.length cap) zeros) 178)) (.slice ad xs.length cap) xs):=HX2.out.below HBB.out;have HBS:Hid (w.heap.size≤w2.heap.size):=hb12.size;clear hmade hb1 ht1 hb2 hb12 HX2 HBB;obtain⟨N,hN⟩:∃N,N=xs.length+1:=⟨_,rfl⟩;have HN:Hid (N=xs.length+1):=hN;(have hwN:IntKind.i64.wrap ((xs.length:Int)+1)=(N:Int):=by rw[IntKind.wrap_i64];omega);(have hwd:IntKind.u8.wrap (d:Int)=(d:Int):=by rw[IntKind.wrap_u8];omega);(have hwd1:IntKind.u8.wrap ((d:Int)+1)=(d:Int)+1:=by rw[IntKind.wrap_u8];omega);clear hN;go_wp2_with fail
   go_loopw [32] (fun v wr=>∃k:Nat,v = .int .i64 k∧k≤N∧wr.heap[w2.heap.size]?=some (.cells (levC (.slice ad xs.length cap) (zIj d k)) 178 (0,0))∧RunesAt w2.heap.size wr (.slice ad xs.length cap) xs∧Below w.heap.size w wr) (fun v _=>N-(intOf v).toNat)
   case atStart=>exact⟨0,rfl,Nat.zero_le _,by rw[zS0];exact HP3.out,HX3.out,HB3.out⟩
   case round=>
    clear HP3 HX3 HB3;obtain⟨k,rfl,hk,hP,hX,hB⟩:=hrel;have HP:Hid (wr.heap[w2.heap.size]?=some (.cells (levC (.slice ad xs.length cap) (zIj d k)) 178 (0,0))):=hP;have HX:Hid (RunesAt w2.heap.size wr (.slice ad xs.length cap) xs):=hX;have HB:Hid (Below w.heap.size w wr):=hB;have hwr:w2.heap.size<wr.heap.size:=(Array.getElem?_eq_some_iff.1 hP).1;by_cases hk8:k<N
    · have hk25:k<25:=by have:=HN.out;omega
      have hcell:wr.cell? ⟨w2.heap.size,1+k,none⟩=some (bv ((zIj d k).getD k 0)):=by
       have:=zFr hP k (bv ((zIj d k).getD k 0)) (by rw[List.getElem?_map,zIj,zH6 _ hk25,zDo _ hk25];rfl);simpa using this
      (have hfz:wr.frozen? ⟨w2.heap.size,1+k,none⟩=false:=by simp[World.frozen?,hP]);obtain⟨y,hy⟩:∃y,(zIj d k).getD k 0=y:=⟨_,rfl⟩;rw[hy]at hcell;clear hP hX hB hy hbl;go_wp2_with fail
      go_roundw
      case rel=>
       refine⟨k+1,by go_num,by omega,?_,HX.out.below ((Below.refl w2.heap.size wr).setCell (p:=⟨w2.heap.size,1+k,none⟩) (Nat.le_refl _) _),HB.out.setCell HBS.out _⟩;rw[←zS1 _ hk25];exact lev_set HP.out
      case measure=>simp[intOf];omega
    · obtain rfl:k=N:=by omega
      have HL:Hid (LevAt wr w2.heap.size xs d):=by
       refine⟨hx24,by omega,ad,cap,?_,hX.mono (by omega)⟩;rw[HN.out,zXa]at hP;exact hP
      clear hP hX hB HP HX;go_wp2_with fail;go_ret2;exact⟨_,_,rfl,HB.out,.inr ⟨HR.out,rfl,_,xs,d,rfl,HBS.out,HXS.out,rfl,HL.out⟩⟩
 · have HR:Hid (rightB s.data.toList e=false):=by unfold Hid;simpa using hr
   clear hr;by_cases hw:zAp s.data.toList=true
   · have HWD:Hid (zAp s.data.toList=true):=hw
     have hne:¬(0≤e∧e≤3):=by
      intro hh;have:=HR.out;simp[rightB,hw,hh]at this
     clear hw;by_cases h0:e<0
     · go_enter Tryz.func73,Tryz.ntmps73
       go_wp2_with (go_at_call 56;refine(zB5 s _ ht hm).mono ?_;rintro e w1 ⟨rfl,hw1⟩;rw[HWD.out]);go_ret2;exact⟨_,_,rfl,by obtain⟨n,rfl⟩:=hw1;exact below_drewN (Below.refl _ _) n,.inl ⟨HR.out,rfl,rfl⟩⟩
     · have h3:3<e:=by omega
       go_enter Tryz.func73,Tryz.ntmps73;go_wp2_with (go_at_call 56;refine(zB5 s _ ht hm).mono ?_;rintro e w1 ⟨rfl,hw1⟩;rw[HWD.out]);go_ret2;exact⟨_,_,rfl,by obtain⟨n,rfl⟩:=hw1;exact below_drewN (Below.refl _ _) n,.inl ⟨HR.out,rfl,rfl⟩⟩
   · have HWD:Hid (zAp s.data.toList=false):=by unfold Hid;simpa using hw
     clear hw;go_enter Tryz.func73,Tryz.ntmps73;go_wp2_with (go_at_call 56;refine(zB5 s _ ht hm).mono ?_;rintro e w1 ⟨rfl,hw1⟩;rw[HWD.out]);go_ret2;exact⟨_,_,rfl,by obtain⟨n,rfl⟩:=hw1;exact below_drewN (Below.refl _ _) n,.inl ⟨HR.out,rfl,rfl⟩⟩
attribute [local go_sem ↓] zA7 zCf zA0 zA6
attribute [local go_sem] zEq
set_option maxHeartbeats 1000000 in
theorem Dist_any(p:Nat)(xs:List Int)(d:Nat)(s:List Nat)(w:World)(h:LevAt w p xs d)(hs:s.length=25):
 Calls Tryz.prog 113 #[.pointer (some ⟨p,0,none⟩),rV s] w fun e w'=>e = .returned (.tuple #[.int .i64 (zNf xs.length d s:Int),.bool (zI8 xs.length d s)])∧Below w.heap.size w w':=by
 obtain⟨hn,hd,ad,cap,hp,hr⟩:=h;have hpl:p<w.heap.size:=(Array.getElem?_eq_some_iff.1 hp).1;obtain⟨w2,hw2⟩:∃w2,w.alloc (.cells (rC s) 137)=w2:=⟨_,rfl⟩;have A2:RAt w2 w.heap.size s:=hw2▸RAt.new w _;have B2:Below w.heap.size w w2:=hw2▸(Below.refl _ w).alloc (Nat.le_refl _) _;have HW:Hid (w.alloc (.cells (rC s) 137)=w2):=hw2;have hp2:=(B2.block p hpl).trans hp;have hc1:=zQ0 hp2;have hc2:=lev_dead hp2 (j:=xs.length) (by omega);rw[dd,if_pos (Nat.le_refl _)]at hc2;have hc3:=A2.cell (i:=xs.length) (by omega);obtain⟨y,hy⟩:∃y,s.getD xs.length 0=y:=⟨_,rfl⟩;rw[hy]at hc3;have HB2:Hid (Below w.heap.size w w2):=B2;have HDN:Hid (zNf xs.length d s=if y≤d then y else 0):=by unfold Hid zNf;rw[hy]
 have HDB:Hid (zI8 xs.length d s=decide (y≤d)):=by unfold Hid zI8;rw[hy]
 have hx25:(xs.length:Int)<25:=by omega
 have hcast:((d+1:Nat):Int)=(d:Int)+1:=by omega
 unfold bv at hc2 hc3;rw[hcast]at hc2;clear hw2 A2 B2 hp hr hp2 hy hcast;by_cases hyd:y≤d
 · have hcmp:¬((d:Int)+1≤(y:Int)):=by omega
   go_enter Tryz.func113,Tryz.ntmps113;(go_upto_region 1 with fail);rw[HW.out];(go_upto_region 2 with fail);go_quiet (fail);go_wp2_with fail;go_ret2;exact⟨by rw[HDN.out,HDB.out,if_pos hyd,decide_eq_true hyd];rfl,below_drewN HB2.out _⟩
 · have hcmp:(d:Int)+1≤(y:Int):=by omega
   go_enter Tryz.func113,Tryz.ntmps113;(go_upto_region 1 with fail);rw[HW.out];(go_upto_region 2 with fail);go_quiet (fail);go_wp2_with fail;go_ret2;exact⟨by rw[HDN.out,HDB.out,if_neg hyd,decide_eq_false hyd];rfl,below_drewN HB2.out _⟩
set_option maxHeartbeats 1000000 in
theorem zYl(p:Nat)(xs:List Int)(d:Nat)(s:List Nat)(w:World)(h:LevAt w p xs d)(hs:s.length=25):
 Calls Tryz.prog 116 #[.pointer (some ⟨p,0,none⟩),rV s] w fun e w'=>e = .returned (.bool (zCz xs.length d s))∧Below w.heap.size w w':=by
 have HL:Hid (LevAt w p xs d):=h;obtain⟨hn,hd,ad,cap,hp,hr⟩:=h;have hpl:p<w.heap.size:=(Array.getElem?_eq_some_iff.1 hp).1;obtain⟨w2,hw2⟩:∃w2,w.alloc (.cells (rC s) 137)=w2:=⟨_,rfl⟩;have A2:Hid (RAt w2 w.heap.size s):=hw2▸RAt.new w _;have B2:Hid (Below w.heap.size w w2):=hw2▸(Below.refl _ w).alloc (Nat.le_refl _) _;have HW:Hid (w.alloc (.cells (rC s) 137)=w2):=hw2;have L2:Hid (LevAt w2 p xs d):=HL.out.below B2.out;have hsz:w.heap.size<w2.heap.size:=A2.out.lt;have HPW:Hid (∀W,Below w.heap.size w W→zGr Tryz.prog (.pointer (some ⟨p,1,none⟩)) W = .ok (rV (zFa xs.length d)) W):=fun W hW=>zBk (zFr ((hW.block p hpl).trans hp)) (zEg xs.length d)
 clear hw2 hp hr;go_enter Tryz.func116,Tryz.ntmps116;go_upto_region 1 with fail
 rw[HW.out];have hS0:zGr Tryz.prog (.pointer (some ⟨p,1,none⟩)) w2.drew = .ok (rV (zFa xs.length d)) w2.drew∧zGr Tryz.prog (.pointer (some ⟨w.heap.size,0,none⟩)) w2.drew = .ok (rV s) w2.drew:=⟨HPW.out _ B2.out.drew,zBk (RAt.range (w:=w2.drew) A2.out) hs⟩;refine zAd (S:=fun W'=>zGr Tryz.prog (.pointer (some ⟨p,1,none⟩)) W' = .ok (rV (zFa xs.length d)) W'∧zGr Tryz.prog (.pointer (some ⟨w.heap.size,0,none⟩)) W' = .ok (rV s) W') 9 rfl zAo hS0 (fun _=>?_);refine tq id 0 5 ?_;simp only[sZa,sZb,sZc];refine tk (i:=1) (v:=rV s) 6 rfl rfl (by kernel_rfl) (fun w hSw=>by(have h2:=hSw.2;exact(zA0 _ (.tmp 3) _ _ _ _ _ _).trans (congrArg (fun z=>Result.andThen z (fun v w'=>Result.ok (Next.value v) w')) h2))) ?_;simp only[sZa,sZb,sZc];refine tq2 id 3 8 4 9 ?_;simp only[sZa,sZb,sZc];refine tq id 5 10 ?_;simp only[sZa,sZb,sZc];refine tk (i:=6) (v:=rV (zFa xs.length d)) 11 rfl rfl (by kernel_rfl) (fun w hSw=>by(have h2:=hSw.1;exact(zA0 _ (.tmp 10) _ _ _ _ _ _).trans (congrArg (fun z=>Result.andThen z (fun v w'=>Result.ok (Next.value v) w')) h2))) ?_;simp only[sZa,sZb,sZc];refine zAe (i:=2) (w0:=w2.drew) 7 119 #[.pointer (some ⟨p,0,none⟩),rV s] (by kernel_rfl) rfl rfl (by rfl) (by kernel_rfl) ?_;refine(zLn p xs d s w2.drew (L2.out.below (Below.refl _ w2).drew) hs).mono ?_;rintro e w3 ⟨rfl,hb3⟩;have B3:Below w.heap.size w w3:=B2.out.drew.trans (hb3.mono (by show w.heap.size≤w2.heap.size;omega));have hS3:zGr Tryz.prog (.pointer (some ⟨p,1,none⟩)) w3 = .ok (rV (zFa xs.length d)) w3∧zGr Tryz.prog (.pointer (some ⟨w.heap.size,0,none⟩)) w3 = .ok (rV s) w3:=⟨HPW.out _ B3,zBk (RAt.range (RAt.below (w:=w2.drew) (w':=w3) (B:=w2.heap.size) A2.out (by omega) hb3)) hs⟩;refine⟨_,rfl,hS3,fun _=>?_⟩;simp only[sZa,sZb,sZc];refine zAu (i:=7) (v := .bool (zCz xs.length d s)) (w':=w3) 12 (by kernel_rfl) rfl rfl (by rfl) ?_ hS3 (fun _=>?_)
 · have hb1:∀x∈cutL xs.length d s,x<256:=zVi fun j _=>by have:=zXf xs.length d s j;omega
   (have hb2:∀x∈zFa xs.length d,x<256:=zVi fun j _=>by have:=dd_le xs.length d j;omega);have hq:=neq_row (zDt xs.length d s) (zEg xs.length d) hb1 hb2 w3;have hg:=zWp .neq (.tmp 7) (.tmp 11) (cutL xs.length d s) (zFa xs.length d) w3;go_simp;rw[zCz,Bool.not_not]
 simp only[sZa,sZb,sZc];refine zAu (i:=8) (v := .bool (zCz xs.length d s)) (w':=w3) 4 (by kernel_rfl) rfl rfl (by rfl) (by kernel_rfl) hS3 (fun _=>?_);simp only[sZa,sZb,sZc];refine wpAnyH_done (by kernel_rfl) ?_ _;clear hS0 hS3;go_wp2_with fail;go_ret;exact⟨rfl,B3⟩
end
