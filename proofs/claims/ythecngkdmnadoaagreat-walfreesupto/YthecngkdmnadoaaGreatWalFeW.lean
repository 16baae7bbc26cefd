import Derived.Test.YthecngkdmnadoaaGreatG52
import Derived.Test.YthecngkdmnadoaaGreatWalFm
import Derived.Test.YthecngkdmnadoaaGreatG22
namespace Go.Proofs.YthecngkdmnadoaaGreat
open Go.RowKit
set_option maxRecDepth 100000
theorem rowX_nil(F:List Nat)(w:World):RowX F w (.slice none 0 0) []:=⟨⟨none,0,rfl,Nat.le_refl _,fun _=>rfl,fun h=>absurd h (by decide)⟩,fun b off len cap e _=>by cases e⟩
set_option maxHeartbeats 4000000 in
theorem frees5_walk(v0:Value)(w:World)(L:List Op5)(hS:Script5 w v0 L)(hL:4*L.length≤1048576)(hx:∀o∈L,o.xs.length≤1048576):
 Calls Tryz.prog 7 #[v0] w fun e w'=>e = .returned (.bool true)∧Below w.heap.size w w':=by
 have HSC:Hid (Script5 w v0 L∧∀o∈L,o.xs.length≤1048576):=⟨hS,hx⟩;clear hS hx;go_enter Tryz.func7,Tryz.ntmps7;go_wp2_with fail;refine(New_any 1073741824 w (by omega) (by omega)).mono ?_;rintro e w1 ⟨p,fp,rfl,hd1,hb1,hf1⟩;have HD1:Hid (DiskAt 0 w1 p (newD 1073741824) fp∧Below w.heap.size w w1∧∀b∈fp,w.heap.size≤b):=⟨hd1,hb1,hf1⟩;clear hd1 hb1 hf1;go_wp2_with fail;refine(alive5_any w1).mono ?_;rintro e w2 ⟨rfl,hb2⟩;have HD2:Hid (DiskAt 0 w2 p (newD 1073741824) fp∧Below w.heap.size w w2):=⟨HD1.out.1.below hb2,HD1.out.2.1.trans (hb2.mono HD1.out.2.1.size)⟩;clear hb2;go_wp2_with fail;refine(lawcut_any w 0 p 4 (newD 1073741824) fp (-1) v0 L w2 HD2.out.1 HD2.out.2 HD1.out.2.2 new_rdy HSC.out.1 (by omega) (by omega) HSC.out.2 (by omega) (by omega)).mono ?_;rintro e w3 ⟨M,wv,d3,fp3,rfl,hb3,hd3,hf3,hcut,hwas⟩;obtain⟨g,rfl,hcp⟩:∃g,g.d=d3∧CutP 1 (4+L.length) (-1) g M:=by
  rcases hcut with⟨_,h,_⟩|h
  · omega
  · exact h
 obtain⟨hrdy,_⟩:=hcp.again (by omega) (by omega) (hcp.un (by omega));obtain⟨g2,hg2,hcp2,_⟩:=hrdy.cut;obtain⟨g3,M3,hg3,hcp3,hl3,g4,M4,hg4,hcp4,hl4,hn4⟩:=hcp2.empty (by omega);have HC:Hid (DiskAt (4+L.length*301000) w3 p g.d fp3∧Below w.heap.size w w3∧∀x∈fp3,w.heap.size≤x):=⟨hd3.mono (by omega),hb3,hf3⟩;have HO:Hid (Calls Tryz.prog 12 #[.pointer (some ⟨p,0,none⟩),.int .u64 0,.int .u64 1] w3 (OpAt (4+L.length*301000+(4+L.length)) p g2 fp3 w3)):=hrdy.at HC.out.1 (by omega) hg2;have H2:Hid (CutP 1 (4+L.length) (-1) g2 [(g2.first,g2.L)]∧appG g2 []=(0,g3)):=⟨hcp2,hg3⟩;have H3:Hid (CutP 1 (4+L.length+1) (-1) g3 M3∧compG g3 (g3.first+g3.L.length)=(0,g4)):=⟨hcp3,hg4⟩;have H4:Hid (CutP 1 (4+L.length+2) (-1) g4 M4∧g4.L=[]∧(numsN g4.d).length≤1):=⟨hcp4,hl4,hn4⟩;obtain⟨wa,wn,wc,rfl⟩:∃wa wn wc,wv = .slice wa wn wc:=by
  cases hM:M with
  |nil=>have:=hcp.last;rw[hM]at this;cases this
  |cons r0 l=>
   obtain⟨gb,cap,lv,e,_⟩:=hwas.at (i:=0) (r:=r0) (by rw[hM];rfl);exact⟨_,_,_,e⟩
 clear hcut hrdy hg2 hcp2 hg3 hcp3 hl3 hg4 hcp4 hl4 hn4 hd3 hb3 hf3 hwas hcp HD1 HD2;go_wp2_with fail;refine HO.out.mono ?_;rintro e w4 ⟨b,v,fp4,s4,rfl,hl4,hp4,ho4,hk4⟩;have HS4:Hid (Since w (4+L.length*301000+(4+L.length)) w4 b p g2 v fp4 s4):=OpAt.since hl4 hp4 ho4 hk4 HC.out.2.1 HC.out.2.2;clear hl4 hp4 ho4 hk4 HO HC;go_wp2_with fail;have hm2:=H2.out.1.sm.many;have ht2:=H2.out.1.sm.tl;refine(App_any _ b g2 v fp4 s4 [] (.slice none 0 0) w4 HS4.out.log (rowX_nil _ _) (H2.out.1.sm.lok (by omega)) (by omega) (by decide)).mono ?_;rw[H2.out.2];rintro e w5 hs5;obtain⟨rfl,v5,fp5,s5,hs5⟩:=HS4.out.says hs5;have HS5:Hid (Since w (4+L.length*301000+(4+L.length)+600+g2.tl.length+g2.l.length+48) w5 b p g3 v5 fp5 s5):=hs5;clear hs5 HS4;go_wp2_with fail;have hf3:=H3.out.1.sm.fl;have hm3:=H3.out.1.sm.many;obtain⟨la,hlb,hla,hla0,hla1,hlast⟩:=lastz_is (W0:=w) (N:=4+L.length*301000+(4+L.length)+600+g2.tl.length+g2.l.length+48) (b:=b) (p:=p) (g:=g3) (v:=v5) (fp:=fp5) (s:=s5) (by omega);refine(hlast _ HS5.out).mono ?_;rintro e w6 ⟨rfl,k6,rfl⟩;have HS6:Hid (Since w (4+L.length*301000+(4+L.length)+600+g2.tl.length+g2.l.length+48) (w5.drewN k6) b p g3 v5 fp5 s5):=HS5.out.on (below_drewN (Below.refl _ _) _);generalize w5.drewN k6=w6 at *;clear hlast hlb HS5;go_wp2_with fail;refine(Comp_log _ b (g3.first+g3.L.length) g3 v5 fp5 s5 w6 HS6.out.log (H3.out.1.sm.lok (by omega)) (by omega)).mono ?_;rw[H3.out.2];rintro e w7 hs7;obtain⟨rfl,v7,fp7,s7,hs7⟩:=HS6.out.says hs7;have HS7:Hid (Since w (4+L.length*301000+(4+L.length)+600+g2.tl.length+g2.l.length+48+g3.l.length+32) w7 b p g4 v7 fp7 s7):=hs7;clear hs7 HS6;go_wp2_with fail;refine(Areas_any _ p g4.d fp7 w7 (by have:=HS7.out.log.disk;rwa [HS7.out.p]at this) (by omega)).mono ?_;rintro e w8 ⟨av,rfl,hnr,hb8⟩;obtain⟨xs,hxs⟩:∃xs,areasS g4.d.secs=xs:=⟨_,rfl⟩;have HN:Hid ((numsOf xs).length≤1):=by
  have:=H4.out.2.2;unfold numsN at this;rw[List.length_map,hxs]at this;exact this
 have HXL:Hid (xs.length≤200000000):=by
  have h1:=areas_le g4.d.secs;have h2:=H4.out.1.len;rw[hxs]at h1;show _≤_;omega
 have HXB:Hid (∀x∈xs,0≤x∧x<18446744073709551616):=by
  obtain⟨segs,cu,hli,_⟩:=H4.out.1.li;intro x hx;rw[←hxs]at hx;obtain⟨s0,h1,rfl⟩:=((areas_mem hli.si.ok.sorted).1 x).1 hx;exact hli.si.ok.area s0 h1
 rw[hxs]at hnr;have HNR:Hid (NumRow w8 av xs):=hnr;have HS8:Hid (Since w (4+L.length*301000+(4+L.length)+600+g2.tl.length+g2.l.length+48+g3.l.length+32) w8 b p g4 v7 fp7 s7):=HS7.out.on hb8;obtain⟨aa,ac,rfl⟩:=hnr.form;clear hnr hxs hb8 HS7;go_wp2_with fail;obtain⟨len,hlen⟩:∃n,xs.length=n:=⟨_,rfl⟩;have HL:Hid (xs.length=len):=hlen;rw[hlen]at HXL HNR ⊢;clear hlen
 go_loopw [8,49] (fun u v wr=>∃(i c:Nat),v = .int .i64 i∧i≤len∧u = .int .i64 (c:Int)∧(numsOf (xs.take i)).length=c∧c≤i∧Below w8.heap.size w8 wr) (fun _ v _=>len-(intOf v).toNat)
 case atStart=>exact⟨0,0,rfl,Nat.zero_le _,rfl,rfl,Nat.le_refl _,Below.refl _ _⟩
 case round=>
  obtain⟨i,c,rfl,hi,rfl,hc,hci,hbw⟩:=hrel;have HB:Hid (Below w8.heap.size w8 wr):=hbw;have hlx:=HXL.out;by_cases hin:i<len
  · obtain⟨x,hx⟩:∃x,xs[i]?=some x:=⟨_,List.getElem?_eq_getElem (by rw[HL.out];exact hin)⟩
    (have HNR2:Hid (NumRow w8 (.slice aa xs.length ac) xs):=by rw[HL.out];exact HNR.out);obtain⟨gb,cap',e1,hcl⟩:=(HNR2.out.below hbw).at hx;rw[HL.out]at e1;simp only[Value.slice.injEq]at e1;obtain⟨rfl,-,rfl⟩:=e1;have HC:Hid ((numsOf (xs.take (i+1))).length=c+(if x.tmod 4==1 then [x.tdiv 4]else []).length):=by
     show _=_;rw[numsOf_succ xs i x hx,List.length_append,hc]
    obtain⟨hx0,hx1⟩:=HXB.out x (List.mem_of_getElem? hx);(have hw1:IntKind.u64.wrap (x.tmod 4)=x.tmod 4:=by rw[Int.tmod_eq_emod_of_nonneg hx0];simp[IntKind.wrap,IntKind.bits,IntKind.signed];omega);clear hbw hx hc HNR2;by_cases hm:x.tmod 4=1
    · have hmb:(x.tmod 4==1)=true:=by simpa using hm
      rw[if_pos hmb]at HC;go_wp2_with fail
      go_roundw
      (case rel=>exact⟨i+1,c+1,by go_num,by omega,by go_num,HC.out,by omega,HB.out⟩);case measure=>simp[intOf];omega
    · have hmb:(x.tmod 4==1)=false:=by simpa using hm
      rw[hmb,if_neg (by decide)]at HC;have hme:(x%4==1)=false:=by
       rw[Int.tmod_eq_emod_of_nonneg hx0]at hm;simpa using hm
      go_wp2_with fail
      go_roundw
      (case rel=>exact⟨i+1,c,by go_num,by omega,rfl,HC.out,by omega,HB.out⟩);case measure=>simp[intOf];omega
  · have hil:i=len:=by omega
    subst hil;have hc1:c≤1:=by
     have:=HN.out;rw[←hc,List.take_of_length_le (Nat.le_of_eq HL.out)];exact this
    have HSr:Hid (Since w (4+L.length*301000+(4+L.length)+600+g2.tl.length+g2.l.length+48+g3.l.length+32) wr b p g4 v7 fp7 s7):=HS8.out.on HB.out;(have hc2:(c:Int)≤2:=by omega);have hf4:=H4.out.1.sm.fl;have hL4:=H4.out.2.1;obtain⟨lb,hlb2,hlb,hlb0,hlb1,hlast⟩:=lastz_is (W0:=w) (N:=4+L.length*301000+(4+L.length)+600+g2.tl.length+g2.l.length+48+g3.l.length+32) (b:=b) (p:=p) (g:=g4) (v:=v7) (fp:=fp7) (s:=s7) (by omega);rw[hL4,List.length_nil,Nat.add_zero]at hlb;clear hc hc1 hlb2 hla hla0 hla1 hL4;go_wp2_with fail;refine(first_since HSr.out _ rfl).mono ?_;rintro e w9 ⟨rfl,rfl⟩;go_wp2_with fail;refine(hlast _ HSr.out).mono ?_;rintro e w10 ⟨rfl,k10,rfl⟩;have HS10:Hid (Since w (4+L.length*301000+(4+L.length)+600+g2.tl.length+g2.l.length+48+g3.l.length+32) (w9.drewN k10) b p g4 v7 fp7 s7):=HSr.out.on (below_drewN (Below.refl _ _) _);generalize w9.drewN k10=w10 at *;go_wp2_with fail;go_ret;exact⟨rfl,HS10.out.below⟩
end Go.Proofs.YthecngkdmnadoaaGreat
