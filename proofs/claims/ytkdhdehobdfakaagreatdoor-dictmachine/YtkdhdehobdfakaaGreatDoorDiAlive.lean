import Derived.Test.YtkdhdehobdfakaaGreatDoorJ46
namespace Go.Proofs.YtkdhdehobdfakaaGreatDoor
open Go.RowKit Go.Shelf Go.Lib Nums Fm Pk Pm Fz Ed Lv
set_option maxRecDepth 100000
namespace Di
def ab14:ByteArray:=⟨#[97,98]⟩
theorem zP4:setL [] ab14 5=[(ab14,5)]∧setH [] ab14 5=0∧setE [] ab14 5=0:=by decide +kernel
theorem zP3:setL [(ab14,5)] ab14 2=[(ab14,2)]∧setH [(ab14,5)] ab14 2=5∧setE [(ab14,5)] ab14 2=0:=by decide +kernel
theorem zR7:sugL [(ab14,2)] (⟨#[97]⟩,1,3)=[(ab14,2,1)]∧allC [97] 1=0∧Go.Proofs.YtkdhdehobdfakaaGreatDoor.rightB [97] 1=true∧allL [(ab14,2)] [97] 1=[(ab14,2,1)]:=by
 have h1:Go.Proofs.YtkdhdehobdfakaaGreatDoor.rightB [97] 1=true:=by decide +kernel
 have h2:rs [97]=some [97]:=by decide +kernel
 have e1:(zCx (ab14,2)).1=[97,98]:=by decide +kernel
 have l1:lv [97,98] [97]=1:=lvx 3 _ _ _ (by decide) (by decide +kernel);have hA:allL [(ab14,2)] [97] 1=[(ab14,2,1)]:=by
  unfold allL;rw[if_pos h1,h2];simp[zDh,e1,l1]
 refine⟨?_,by unfold allC;rw[if_pos h1],h1,hA⟩;unfold sugL;show Bt.bestF (Bt.kk 3) (allL [(ab14,2)] [97] 1)=_;rw[hA];decide +kernel
set_option maxHeartbeats 2000000 in
theorem zP2(w:World)(ht:Tabs w):Calls Tryz.prog 5 #[] w fun e w'=>e = .returned (.bool true)∧Below w.heap.size w w':=by
 have HN:Hid (Calls Tryz.prog 12 #[] w fun e w'=>∃db,e = .returned (.pointer (some ⟨db,0,none⟩))∧LoadSays w.heap.size w w' [] db):=New_dict w.heap.size w (Nat.le_refl _) (TabB.of ht);have HST:Hid (∀W db lo hi wb v base over L x,DictAt w.heap.size W db lo hi wb v base over→over.length≤32→zAe zAa base over=L→Calls Tryz.prog 13 #[.pointer (some ⟨db,0,none⟩),.string ⟨#[97,98]⟩,.int .i64 x] W fun e w'=>e = .returned (.tuple #[.int .i64 (setH L ab14 x),.int .i64 (setE L ab14 x)])∧MutSays w.heap.size W w' db lo hi v (setL L ab14 x)):=fun W db lo hi wb v base over L x hd hf hL=>by
  have:=zYu w.heap.size W db lo hi wb v base over hd hf ab14 (by decide) x;rw[hL]at this;exact this
 have HSG:Hid (∀W db lo hi wb v base over,DictAt w.heap.size W db lo hi wb v base over→zAe zAa base over=[(ab14,2)]→Calls Tryz.prog 14 #[.pointer (some ⟨db,0,none⟩),.agg #[.string ⟨#[97]⟩,.int .i64 1,.int .i64 3]] W fun e w'=>∃g off cap,e = .returned (.tuple #[.slice (some ⟨g,off,none⟩) 1 cap,.int .i64 0])∧(w'.cell? ⟨g,off,none⟩=some (.string ⟨#[97,98]⟩)∧w'.cell? ⟨g,off+1,none⟩=some (.int .i64 2)∧w'.cell? ⟨g,off+2,none⟩=some (.int .i64 1))∧Below W.heap.size W w'):=fun W db lo hi wb v base over hd hL=>(zP5 w.heap.size W db lo hi wb v base over hd (⟨#[97]⟩,1,3) (by decide) zR7.2.2.1 (by rw[hL];show(allL [(ab14,2)] [97] 1).length≤1;rw[zR7.2.2.2];exact Nat.le_refl _)).mono (by
  rintro e w' ⟨ad,n,cap,rfl,hr,_,hb⟩;rw[hL,zR7.1]at hr;obtain⟨ad',cap',hv⟩:=hr.form;simp only[Value.slice.injEq,List.length_singleton]at hv;obtain⟨rfl,rfl,rfl⟩:=hv;obtain⟨g,off,rfl,hg,hc⟩:=hr.at (by simp);obtain⟨c0,c1,c2⟩:=hc 0 (ab14,2,1) rfl;simp only[Nat.zero_mul,Nat.add_zero]at c0 c1 c2;refine⟨g,off,cap,?_,⟨c0,c1,c2⟩,hb⟩;have:allC (⟨#[97]⟩:ByteArray).data.toList 1=0:=zR7.2.1;rw[this])
 have s1:(({ data:=#[97,98] }:ByteArray).toList==({ data:=#[97,98] }:ByteArray).toList)=true:=by simp
 clear ht;go_enter Tryz.func5,Tryz.ntmps5;go_upto_region 4 with(go_at_call 12;refine HN.out.mono ?_;rintro e w1 ⟨db,rfl,hls⟩;have HLS:Hid (LoadSays w.heap.size w w1 [] db):=hls;clear hls)
 obtain⟨lo1,hi1,wb1,hd1,_⟩:=HLS.out.ex;have HD1:Hid (DictAt w.heap.size w1 db lo1 hi1 wb1 (.slice none 0 0) [] []):=hd1;clear hd1;go_upto_region 5 with(go_at_call 13;refine(HST.out _ _ _ _ _ _ _ _ [] _ HD1.out (by simp) rfl).mono ?_;rintro e w2 ⟨rfl,hm2⟩;rw[zP4.2.1,zP4.2.2];rw[zP4.1]at hm2;have HM2:Hid (MutSays w.heap.size w1 w2 db lo1 hi1 (.slice none 0 0) [(ab14,5)]):=hm2;clear hm2)
 obtain⟨lo2,hi2,wb2,v2,b2,o2,hd2,hf2,hL2,_,_⟩:=HM2.out.ex;have HD2:Hid (DictAt w.heap.size w2 db lo2 hi2 wb2 v2 b2 o2∧o2.length≤32∧zAe zAa b2 o2=[(ab14,5)]):=⟨hd2,hf2,hL2⟩;clear hd2 hf2 hL2;go_upto_region 6 with(go_at_call 13;refine(HST.out _ _ _ _ _ _ _ _ [(ab14,5)] _ HD2.out.1 HD2.out.2.1 HD2.out.2.2).mono ?_;rintro e w3 ⟨rfl,hm3⟩;rw[zP3.2.1,zP3.2.2];rw[zP3.1]at hm3;have HM3:Hid (MutSays w.heap.size w2 w3 db lo2 hi2 v2 [(ab14,2)]):=hm3;clear hm3)
 obtain⟨lo3,hi3,wb3,v3,b3,o3,hd3,_,hL3,_,_⟩:=HM3.out.ex;have HD3:Hid (DictAt w.heap.size w3 db lo3 hi3 wb3 v3 b3 o3∧zAe zAa b3 o3=[(ab14,2)]):=⟨hd3,hL3⟩;have HB3:Hid (Below w.heap.size w w3):=by
  have h2:=HM2.out.upd.below HD1.out.size (fun k g=>(HD1.out.fp k g).1);have h3:=HM3.out.upd.below HD2.out.1.size (fun k g=>(HD2.out.1.fp k g).1);exact HLS.out.bel.trans (h2.trans h3)
 clear hd3 hL3;go_wp2_with (go_at_call 14;refine(HSG.out _ _ _ _ _ _ _ _ HD3.out.1 HD3.out.2).mono ?_;rintro e w4 ⟨g,off,cap,rfl,⟨c0,c1,c2⟩,hb4⟩;have HB4:Hid (Below w.heap.size w w4):=HB3.out.trans (hb4.mono HB3.out.size);clear hb4);go_ret;exact⟨by first|rfl|simp,HB4.out⟩
