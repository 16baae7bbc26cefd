/- PROVED: there are never more words than there is room for: with 4096 words a further one is refused as often as it is tried, a word that is there takes another weight, and one that goes makes room again (P14.2)
   Conditions: none: every input that can be -/
import Derived.Test.YtobjpljdgieklaaGreatDoorJ52
import Derived.Deep.Slices
set_option maxRecDepth 100000
set_option maxHeartbeats 8000000
namespace Go.Proofs.YtobjpljdgieklaaGreatDoor
section
open Go.RowKit Go.Shelf Go.Lib Nums Fm Pk Pm Fz Ed Lv
namespace Di
def w3(i:Nat):ByteArray:=⟨#[UInt8.ofNat (97+i/256),UInt8.ofNat (97+i/16%16),UInt8.ofNat (97+i%16)]⟩
def full(k:Nat):List Pr:=(List.range k).map fun i=>(w3 i,1)
def zz:ByteArray:=⟨#[122,122]⟩
def aaa:ByteArray:=⟨#[97,97,97]⟩
theorem full_ok:zAf (full 4096)=0:=by decide +kernel
theorem full_zz:setE (full 4096) zz 1=142∧setE (full 4096) aaa 2=0:=by decide +kernel
theorem full_aaa:remE (setL (full 4096) aaa 2) aaa=0∧remH (setL (full 4096) aaa 2) aaa=2:=by decide +kernel
theorem full_end:setE (remL (setL (full 4096) aaa 2) aaa) zz 1=0∧(setL (remL (setL (full 4096) aaa 2) aaa) zz 1).length=4096:=by decide +kernel
end Di
namespace Di
def DS(B:Nat)(W:World)(db:Nat)(M:List Pr):Prop:=∃lo hi wb v base over,DictAt B W db lo hi wb v base over∧over.length≤32∧zAc zAa base over=M
theorem DS.below{B:Nat}{W W':World}{db:Nat}{M:List Pr}(h:DS B W db M)(hb:Below W.heap.size W W'):DS B W' db M:=by
 obtain⟨lo,hi,wb,v,base,over,h1,h2,h3⟩:=h;exact⟨lo,hi,wb,v,base,over,h1.below hb,h2,h3⟩
theorem DS.set{B:Nat}{W:World}{db:Nat}{M:List Pr}(h:DS B W db M)(s:ByteArray)(hs:s.size≤9223372036854775807)(x:Int):
 Calls Tryz.prog 33 #[.pointer (some ⟨db,0,none⟩),.string s,.int .i64 x] W fun e w'=>e = .returned (.tuple #[.int .i64 (setH M s x),.int .i64 (setE M s x)])∧DS B w' db (setL M s x)∧Below B W w':=by
 obtain⟨lo,hi,wb,v,base,over,h1,h2,rfl⟩:=h;refine(zYd B W db lo hi wb v base over h1 h2 s hs x).mono ?_;rintro e w' ⟨rfl,hm⟩;obtain⟨lo',hi',wb',v',b',o',k1,k2,k3,_,_⟩:=hm.ex;exact⟨rfl,⟨lo',hi',wb',v',b',o',k1,k2,k3⟩,hm.upd.below h1.size (fun k g=>(h1.fp k g).1)⟩
theorem DS.rem{B:Nat}{W:World}{db:Nat}{M:List Pr}(h:DS B W db M)(s:ByteArray)(hs:s.size≤9223372036854775807):
 Calls Tryz.prog 34 #[.pointer (some ⟨db,0,none⟩),.string s] W fun e w'=>e = .returned (.tuple #[.int .i64 (remH M s),.int .i64 (remE M s)])∧DS B w' db (remL M s)∧Below B W w':=by
 obtain⟨lo,hi,wb,v,base,over,h1,h2,rfl⟩:=h;refine(zTo B W db lo hi wb v base over h1 h2 s hs).mono ?_;rintro e w' ⟨rfl,hm⟩;obtain⟨lo',hi',wb',v',b',o',k1,k2,k3,_,_⟩:=hm.ex;exact⟨rfl,⟨lo',hi',wb',v',b',o',k1,k2,k3⟩,hm.upd.below h1.size (fun k g=>(h1.fp k g).1)⟩
theorem DS.len{B:Nat}{W:World}{db:Nat}{M:List Pr}(h:DS B W db M):
 Calls Tryz.prog 35 #[.pointer (some ⟨db,0,none⟩)] W fun e w'=>e = .returned (.int .i64 (M.length:Int))∧Below W.heap.size W w':=by
 obtain⟨lo,hi,wb,v,base,over,h1,h2,rfl⟩:=h;exact Len_any B W db lo hi wb v base over h1
theorem DS.size{B:Nat}{W:World}{db:Nat}{M:List Pr}(h:DS B W db M):B≤W.heap.size:=by
 obtain⟨lo,hi,wb,v,base,over,h1,h2,rfl⟩:=h;exact h1.size
theorem full_len(k:Nat):(full k).length=k:=by simp[full]
theorem full_succ(k:Nat):full (k+1)=full k++[(w3 k,1)]:=by simp[full,List.range_succ]
theorem full_sm(k:Nat):Sm (full k):=fun x hx=>by
 obtain⟨i,_,rfl⟩:=List.mem_map.1 hx;exact Nat.le_trans (Nat.le_of_eq rfl:(w3 i).size≤3) (by decide)
end Di
open Di
theorem dfull_walk(x:Int)(w:World)(ht:Tabs w)(_:(Lit.int IntKind.i64 x).wf=true):
 Calls Tryz.prog 12 #[.int .i64 x] w fun e w'=>e = .returned (.bool true)∧Below w.heap.size w w':=by
 have HAL:Hid (∀W,Below w.heap.size w W→Calls Tryz.prog 14 #[] W fun e w'=>e = .returned (.bool true)∧Below W.heap.size W w'):=fun W hW=>zCq W (ht.below hW)
 by_cases h1:x<1
 · clear ht
   go_enter Tryz.func12,Tryz.ntmps12;go_wp2_with (go_at_call 14;refine(HAL.out _ (Below.refl _ _)).mono ?_;rintro e w2 ⟨rfl,hb2⟩;have HB2:Hid (Below w.heap.size w w2):=hb2;clear hb2);go_ret;exact⟨rfl,HB2.out⟩
 by_cases h2:40<x
 · clear ht
   go_enter Tryz.func12,Tryz.ntmps12;go_wp2_with (go_at_call 14;refine(HAL.out _ (Below.refl _ _)).mono ?_;rintro e w2 ⟨rfl,hb2⟩;have HB2:Hid (Below w.heap.size w w2):=hb2;clear hb2);go_ret;exact⟨rfl,HB2.out⟩
 have HLD:Hid (∀W u,Below w.heap.size w W→PRow W u (full 4096)→Calls Tryz.prog 17 #[u] W fun e w'=>∃db,e = .returned (.tuple #[.pointer (some ⟨db,0,none⟩),.int .i64 0])∧DS w.heap.size w' db (full 4096)∧Below w.heap.size w w'):=fun W u hW hu=>(zHq w.heap.size W hW.size ((TabB.of ht).go hW) u _ hu (full_sm _) full_ok).mono (by
  rintro e w' ⟨db,rfl,hl⟩;obtain⟨lo,hi,wb,hd,_⟩:=hl.ex;exact⟨db,rfl,⟨lo,hi,wb,_,_,[],hd,by simp,(Dok.start full_ok).2⟩,hW.trans (hl.bel.mono hW.size)⟩)
 obtain⟨F,M1,M2,M3,HFU,HZ1,HA,HR,HZ2,HLN⟩:∃F M1 M2 M3,Hid (full 4096=F) ∧
  Hid (∀W db,DS w.heap.size W db F→Calls Tryz.prog 33 #[.pointer (some ⟨db,0,none⟩),.string ⟨#[122,122]⟩,.int .i64 1] W fun e w'=>∃h,e = .returned (.tuple #[.int .i64 h,.int .i64 142])∧DS w.heap.size w' db F∧Below w.heap.size W w') ∧
  Hid (∀W db,DS w.heap.size W db F→Calls Tryz.prog 33 #[.pointer (some ⟨db,0,none⟩),.string ⟨#[97,97,97]⟩,.int .i64 2] W fun e w'=>∃h,e = .returned (.tuple #[.int .i64 h,.int .i64 0])∧DS w.heap.size w' db M1∧Below w.heap.size W w') ∧
  Hid (∀W db,DS w.heap.size W db M1→Calls Tryz.prog 34 #[.pointer (some ⟨db,0,none⟩),.string ⟨#[97,97,97]⟩] W fun e w'=>e = .returned (.tuple #[.int .i64 2,.int .i64 0])∧DS w.heap.size w' db M2∧Below w.heap.size W w') ∧
  Hid (∀W db,DS w.heap.size W db M2→Calls Tryz.prog 33 #[.pointer (some ⟨db,0,none⟩),.string ⟨#[122,122]⟩,.int .i64 1] W fun e w'=>∃h,e = .returned (.tuple #[.int .i64 h,.int .i64 0])∧DS w.heap.size w' db M3∧Below w.heap.size W w') ∧
  Hid (∀W db,DS w.heap.size W db M3→Calls Tryz.prog 35 #[.pointer (some ⟨db,0,none⟩)] W fun e w'=>e = .returned (.int .i64 4096)∧Below W.heap.size W w'):=by
  refine⟨full 4096,setL (full 4096) aaa 2,remL (setL (full 4096) aaa 2) aaa,setL (remL (setL (full 4096) aaa 2) aaa) zz 1,rfl,fun W db h=>?_,fun W db h=>?_,fun W db h=>?_,fun W db h=>?_,fun W db h=>?_⟩
  · refine(h.set zz (by decide) 1).mono ?_
    rintro e w' ⟨rfl,k1,k2⟩;(have hL:setL (full 4096) zz 1=full 4096:=by unfold setL;rw[if_neg (by rw[full_zz.1];decide)]);rw[hL]at k1;exact⟨_,by rw[full_zz.1],k1,k2⟩
  · refine(h.set aaa (by decide) 2).mono ?_
    rintro e w' ⟨rfl,k1,k2⟩;exact⟨_,by rw[full_zz.2],k1,k2⟩
  · refine(h.rem aaa (by decide)).mono ?_
    rintro e w' ⟨rfl,k1,k2⟩;exact⟨by rw[full_aaa.1,full_aaa.2],k1,k2⟩
  · refine(h.set zz (by decide) 1).mono ?_
    rintro e w' ⟨rfl,k1,k2⟩;exact⟨_,by rw[full_end.1],k1,k2⟩
  · have hl:=h.len
    rw[full_end.2]at hl;exact hl
 rw[HFU.out]at HLD;clear ht;go_enter Tryz.func12,Tryz.ntmps12;go_wp2
 go_loopg [3,4,22] 4096 (fun gm s3 s4 s22 wr=>∃(j:Nat) (ad:Option Addr) (cap:Nat),s22 = .int .i64 j∧j≤4096∧4096-j≤gm∧s3 = .slice ad j cap∧Hid (POwn w.heap.size wr (.slice ad j cap) (full j)∧Below w.heap.size w wr))
 case atStart=>exact⟨0,none,0,rfl,Nat.zero_le _,by omega,rfl,POwn.nil _ _,Below.refl _ _⟩
 case round=>
  obtain⟨j,ad,cap,rfl,hj,hgm,rfl,HS⟩:=hrel;by_cases hlt:j<4096
  · have hltz:(j:Int)<4096:=by omega
    (have t1:Int.tdiv (j:Int) 256=((j/256:Nat):Int):=by rw[Int.tdiv_eq_ediv_of_nonneg (by omega)];rfl);(have t2:Int.tmod (Int.tdiv (j:Int) 16) 16=((j/16%16:Nat):Int):=by rw[Int.tdiv_eq_ediv_of_nonneg (by omega),Int.tmod_eq_emod_of_nonneg (by omega)];rfl);(have t3:Int.tmod (j:Int) 16=((j%16:Nat):Int):=by rw[Int.tmod_eq_emod_of_nonneg (by omega)];rfl);have HJ:Hid (j<4096):=hlt;obtain⟨W1,hW1⟩:∃W1,W1=wr.alloc (.cells #[.int .u8 (97+(j:Int)/256),.int .u8 (97+(j:Int)/16%16),.int .u8 (97+(j:Int)%16)] 5):=⟨_,rfl⟩;obtain⟨pb,hpb⟩:∃pb,pb=wr.heap.size:=⟨_,rfl⟩;(have hn1:W1.heap[pb]?=some (.cells #[.int .u8 (97+(j:Int)/256),.int .u8 (97+(j:Int)/16%16),.int .u8 (97+(j:Int)%16)] 5):=by rw[hW1,hpb];exact zAb _ _);(have hb1:Below wr.heap.size wr W1:=by rw[hW1];exact(Below.refl _ wr).alloc (Nat.le_refl _) _);have hcv:(convert 68 9 (.slice (some ⟨pb,0,none⟩) 3 3)).run Tryz.prog W1 = .ok (.string (w3 j)) W1:=by
     have h3:strOfNums [97+(j:Int)/256,97+(j:Int)/16%16,97+(j:Int)%16]=w3 j:=by
      unfold strOfNums w3;(have a1:(97+(j:Int)/256).toNat=97+j/256:=by omega);(have a2:(97+(j:Int)/16%16).toNat=97+j/16%16:=by omega);(have a3:(97+(j:Int)%16).toNat=97+j%16:=by omega);simp only[List.map_cons,List.map_nil,a1,a2,a3]
     rw[←h3];refine run_convert_bytes_arg W1 68 5 Tryz.underlying68 Tryz.underlying5 pb 0 3 3 [97+(j:Int)/256,97+(j:Int)/16%16,97+(j:Int)%16] rfl (fun i hi=>?_) 9 Tryz.underlying9;(have hi3:i=0∨i=1∨i=2:=by omega);rcases hi3 with rfl|rfl|rfl<;>simp[World.cell?,hn1]
    have HO:Hid (POwn w.heap.size W1 (.slice ad j cap) (full j)∧Below w.heap.size w W1):=⟨HS.out.1.below hb1,HS.out.2.trans (hb1.mono HS.out.2.size)⟩;clear hn1 hb1 HS;(go_upto_region 7 with fail);go_wp2;rw[←hW1,←hpb,hcv];clear hcv hW1 hpb t1 t2 t3;go_wp2_with (at_builtin;refine zF7 rfl _ _ rfl w.heap.size _ _ (full j) [(w3 j,1)] rfl (HO.out.1.below ((Below.refl _ W1).alloc (Nat.le_refl _) _)) rfl (PRow.one (TwoAt.new W1 (w3 j,1) _)) (by have:=HJ.out;rw[full_len,List.length_singleton];omega) (by have:=HO.out.2.size;simp;omega) ?_;intro v2 w2 ho2 hb2 _;rw[←full_succ]at ho2;obtain⟨a2,c2,e2⟩:=ho2.shape;rw[full_len]at e2;subst e2;have HN:Hid (POwn w.heap.size w2 (.slice a2 (j+1) c2) (full (j+1))∧Below w.heap.size w w2):=⟨ho2,HO.out.2.trans (((Below.refl _ W1).alloc (Nat.le_refl _) _ |>.mono HO.out.2.size).trans hb2)⟩;clear ho2 hb2);go_roundg (4096-(j+1));(case measure=>omega);case rel=>exact⟨j+1,a2,c2,by go_num,by omega,Nat.le_refl _,by first|rfl|go_num,HN⟩
  · have hltz:¬(j:Int)<4096:=by omega
    (have hj4:j=4096:=by omega);subst hj4;have HS2:Hid (POwn w.heap.size wr (.slice ad 4096 cap) F∧Below w.heap.size w wr):=⟨by rw[←HFU.out];exact HS.out.1,HS.out.2⟩;clear HS;go_wp2_with (go_at_call 17;refine(HLD.out _ _ HS2.out.2 HS2.out.1.row).mono ?_;rintro e w1 ⟨db,rfl,hd,hb⟩;have HD:Hid (DS w.heap.size w1 db F∧Below w.heap.size w w1):=⟨hd,hb⟩;clear hd hb)
    go_loopg [7,8,57] x.toNat (fun gm s7 s8 s57 wq=>∃(i:Nat),s57 = .int .i64 i∧(i:Int)≤x∧x.toNat-i≤gm∧Hid (DS w.heap.size wq db F∧Below w.heap.size w wq))
    case atStart=>exact⟨0,rfl,by omega,by omega,HD⟩
    case round=>
     obtain⟨i,rfl,hi,him,HQ⟩:=hrel;by_cases hix:(i:Int)<x
     · go_wp2_with (go_at_call 33;refine(HZ1.out _ _ HQ.out.1).mono ?_;rintro e w2 ⟨hh,rfl,hd,hb⟩;have HQ2:Hid (DS w.heap.size w2 db F∧Below w.heap.size w w2):=⟨hd,HQ.out.2.trans hb⟩;clear hd hb)
       go_roundg (x.toNat-(i+1));(case measure=>omega);case rel=>exact⟨i+1,by go_num,by omega,Nat.le_refl _,HQ2⟩
     · go_upto_region 19 with(go_at_call 33;refine(HA.out _ _ HQ.out.1).mono ?_;rintro e w2 ⟨hh,rfl,hd,hb⟩;have HQ2:Hid (DS w.heap.size w2 db M1∧Below w.heap.size w w2):=⟨hd,HQ.out.2.trans hb⟩;clear hd hb)
       (go_upto_region 20 with(go_at_call 34;refine(HR.out _ _ HQ2.out.1).mono ?_;rintro e w3 ⟨rfl,hd,hb⟩;have HQ3:Hid (DS w.heap.size w3 db M2∧Below w.heap.size w w3):=⟨hd,HQ2.out.2.trans hb⟩;clear hd hb));go_upto_region 21 with(go_at_call 33;refine(HZ2.out _ _ HQ3.out.1).mono ?_;rintro e w4 ⟨h4,rfl,hd,hb⟩;have HQ4:Hid (DS w.heap.size w4 db M3∧Below w.heap.size w w4):=⟨hd,HQ3.out.2.trans hb⟩;clear hd hb)
       go_wp2_with (first
        |(go_at_call 14;refine(HAL.out _ HQ4.out.2).mono ?_;rintro e w5 ⟨rfl,hb5⟩;have HQ5:Hid (DS w.heap.size w5 db M3∧Below w.heap.size w w5):=⟨HQ4.out.1.below hb5,HQ4.out.2.trans (hb5.mono HQ4.out.2.size)⟩;clear hb5)
        |(go_at_call 35;refine(HLN.out _ _ HQ5.out.1).mono ?_;rintro e w6 ⟨rfl,hb6⟩;have HB6:Hid (Below w.heap.size w w6):=HQ5.out.2.trans (hb6.mono HQ5.out.2.size);clear hb6))
       go_ret;exact⟨by first|rfl|simp,HB6.out⟩
end
section
open Go.ChangeShapes Go.WideShapes Go.ChangeAt Go.RowKit
open Go.ChangeMaps (open_string shut_string)
theorem dfull_contract(H:Type)(enc:TypeId×Value→H)(W:World)(base:Nat)(args:Array Value)(ds gs:List (DataW H))(before:List MemPlace)
 (hval:∀(j:Nat) t v,Tryz.f12.params[j]?=some t→args[j]?=some v→Value.okWide Tryz.prog W .any base t v)
 (hW:DataW.Whole enc Tryz.prog Tryz.f12.params.toList Rows.dictFullSpec.vars false W args.toList ds gs before) (hL:laidMetH Tryz.prog Rows.dictFullRow.laid W):
 Calls Tryz.prog 12 args W fun e W'=>∃v,e = .returned v∧Rows.dictFullSpec.post enc Tryz.prog Tryz.f12 false true false false W args v W':=by
 have hW':=hW;obtain⟨p,q,hA0,hV,rfl,hfz,hnd⟩:=hW;have hA:DataW.TrodAll enc Tryz.prog W 0 (fun _=>true) true Tryz.f12.params.toList args.toList ds p:=hA0;rw[Tryz.params12]at hA hval;obtain⟨v0,vs0,d0,ds0,p0,q0,hargs,rfl,rfl,h0,r0⟩:=trodAll_cons hA;obtain⟨rfl,rfl,rfl⟩:=trodAll_nil r0;obtain rfl:args=#[v0]:=by cases args;simp_all
 obtain⟨rfl,rfl⟩:=trodVars_none hV;obtain⟨a0,rfl,rfl,rfl,w0⟩:=open_int Tryz.underlying3 (hval 0 3 v0 rfl rfl) h0;clear hA0;simp only[List.append_nil]at hW';refine(dfull_walk a0 W (zB6 hL) w0).mono fun e W' ⟨he,hb⟩=>?_
 subst he
 exact⟨_,rfl,_,_,_,[],_,[],hW',trodAll_cons_mk (shut_bool Tryz.underlying4 _) trodAll_mk0,
  trodAll_cons_mk (shut_int Tryz.underlying3 w0) trodAll_mk0,rfl,hb.frame _,fun h=>by cases h⟩
theorem dfull_laid(os:Os):laidMet Tryz.prog Rows.dictFullRow.laid ((laidWorld os).forCall (fun _ _=>0) ⟨#[],#[.int .i64 0],[]⟩).memory:=
 laidMet_of_run' 8 (by kernel_rfl) (by kernel_rfl)
theorem dfull_reads(os:Os){H:Type}(enc:TypeId×Value→H):∃places,DataW.whole enc Tryz.prog ((laidWorld os).forCall (fun _ _=>0) ⟨#[],#[.int .i64 0],[]⟩).memory Tryz.f12.params.toList Rows.dictFullSpec.vars false #[Value.int .i64 0].toList 8=some ([.lit (.int .i64 0)],[],places):=
 ⟨[],by kernel_rfl⟩
theorem dfull_lifted(os:Os)(started:os.Started)(H:Type)(enc:TypeId×Value→H)(F:Stop.Interp):
 ReturnsInHanded {} Tryz.checked os 12 .any ((OpenSpec.ofChange Rows.dictFullSpec).preRow enc Tryz.prog Tryz.f12 Rows.dictFullRow.domain false Rows.dictFullRow.laid) (((OpenSpec.ofChange Rows.dictFullSpec).at F).post enc Tryz.prog Tryz.f12 false true false false):=by
 obtain⟨places,hx⟩:=dfull_reads os enc
 refine returnsInHanded_of_row (C:=Tryz.checked) (s:=OpenSpec.ofChange Rows.dictFullSpec) own started (by kernel_rfl) Tryz.func12
  (witness_row_at (enc:=enc) (C:=Tryz.checked) false (laidWorld os) #[.int .i64 0] rfl (by kernel_rfl) (by kernel_rfl) (by kernel_rfl)
   (OpenSpec.preRow_of_cond 8 hx (by kernel_rfl) (fun k hk=>by cases hk) (by kernel_rfl) (dfull_laid os))) ?_
 intro W base args ds gs before hval hW _ _ _ hL _ _;exact dfull_contract H enc W base args ds gs before hval hW hL
theorem dfull_said:Rows.DictFullSaid:=
 OpenClaim.holds_of_cond 12 Tryz.f12 rfl rfl rfl rfl rfl rfl rfl ⟨rfl,rfl,rfl,rfl,rfl⟩ rfl rfl rfl rfl rfl (by kernel_rfl) Tryz.func12 (by kernel_rfl)
  (of_decide_eq_true (by kernel_rfl)) (by unfold Func.isWrapper;first|(rw[if_pos (by decide +kernel)];kernel_rfl)|(rw[if_neg (by decide +kernel)];exact⟨rfl,rfl⟩))
  (fun os started H enc _ F=>by rw[OpenClaim.pre_eq_preRow];exact dfull_lifted os started H enc F)
theorem dfull_plain (f : FuncId) (fn : Func) (hf : Tryz.pinned.checked.prog.funcNamed "abecedary/abecedarylaw14.DictFull" = some f) (hfn : Tryz.pinned.checked.prog.funcs[f]? = some fn) :
 true=Tryz.pinned.checked.prog.looks []∧∀(j:Nat) t,fn.params[j]?=some t→Tryz.pinned.checked.prog.wantsStandIn t=false:=by
 obtain rfl : f = 12 := Option.some.inj ((show Tryz.prog.funcNamed "abecedary/abecedarylaw14.DictFull" = some 12 by kernel_rfl).symm.trans hf) |>.symm;obtain rfl:fn=Tryz.f12:=(Option.some.inj (Tryz.func12.symm.trans hfn)).symm;refine⟨by kernel_rfl,fun j t ht=>?_⟩;rw[Tryz.params12]at ht;obtain rfl:t=3:=by simpa using Array.mem_of_getElem? ht
 exact(show Tryz.prog.wantsStandIn 3=false by kernel_rfl)
theorem dfull_card:Rows.DictFullCardSaid:=
 Claim7.holds_tied_plain_at .later [] _ _ _ _ dfull_said (fun _ h=>by cases h) (by kernel_rfl) (fun _ h=>by cases h) dictFull_row_tie rfl ⟨rfl,rfl⟩ (by kernel_rfl) rfl dfull_plain (by kernel_rfl)
end
