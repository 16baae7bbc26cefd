import Derived.Test.YtobjpljdgieklaaGreatDoorJ44
import Derived.Deep.QuietTactic
import Derived.BigQuiet
import Derived.Test.YtobjpljdgieklaaGreatDoorJ46
set_option maxRecDepth 100000
namespace Go.Proofs.YtobjpljdgieklaaGreatDoor
section
open Go.RowKit Go.Shelf Go.Lib Nums Fm Pk Pm
namespace Di
structure S5l(db wb pb:Nat)(s:ByteArray)(W:World):Prop where
 c0:W.cell? ⟨db,0,none⟩=some (.pointer (some ⟨wb,0,none⟩))
 p0:W.cell? ⟨pb,0,none⟩=some (.string s)
theorem S5l.facts{db wb pb:Nat}{s:ByteArray}{W:World}(h:S5l db wb pb s W):W.cell? ⟨db,0,none⟩=some (.pointer (some ⟨wb,0,none⟩))∧W.cell? ⟨pb,0,none⟩=some (.string s):=⟨h.1,h.2⟩
theorem S5l.below{db wb pb:Nat}{s:ByteArray}{w w':World}(h:S5l db wb pb s w)(hb:Below w.heap.size w w'):S5l db wb pb s w':=
 ⟨(hb.cell (p:=⟨db,0,none⟩) (World.block_lt_of_cell? _ _ h.c0)).trans h.c0,(hb.cell (p:=⟨pb,0,none⟩) (World.block_lt_of_cell? _ _ h.p0)).trans h.p0⟩
def lenJ(base over:List Pr)(j:Nat):Int:=((zAc zAa base (over.take j)).length:Int)
theorem zVx{base over:List Pr}(h:Dok base over){j:Nat}{p:Pr}(hp:over[j]?=some p):lenJ base over (j+1)=lenJ base over j-(if (Pm.find base p.1).isSome then 1 else 0)+(if 0<p.2 then 1 else 0):=by
 have h1:=len_step lessB_sto h.up hp (zHm h.ok);have h2:=(h.wd p (List.mem_of_getElem? hp)).2.1;unfold lenJ;have e:(if p.2=0 then 0 else 1:Nat)=(if 0<p.2 then 1 else 0):=by
  by_cases h0:p.2=0
  · rw[if_pos h0,if_neg (by omega)]
  · rw[if_neg h0,if_pos (by omega)]
 rw[e]at h1
 split at h1<;>split at h1<;>simp_all<;>omega
set_option maxHeartbeats 4000000 in
theorem Len_any(B:Nat)(w:World)(db lo hi wb:Nat)(v:Value)(base over:List Pr)(h:DictAt B w db lo hi wb v base over):
 Calls Tryz.prog 35 #[.pointer (some ⟨db,0,none⟩)] w fun e w'=>e = .returned (.int .i64 ((zAc zAa base over).length:Int))∧Below w.heap.size w w':=by
 obtain⟨vd,vc,hv⟩:=h.own.shape;subst hv;obtain⟨n,hn⟩:∃n,over.length=n:=⟨_,rfl⟩;rw[hn]at h;have hb0:=(zAn h.ok.ok).2.2;have h33:=h.ok.few;rw[hn]at h33;have HN:Hid (over.length=n):=hn;have HOK:Hid (Dok base over):=h.ok;have HS:Hid (∀W,Below w.heap.size w W→Sdb db wb (.slice vd n vc) W):=fun W hW=>h.sdb.below hW
 have HR:Hid (PRow w (.slice vd n vc) over):=h.row;have HLN:Hid (∀W,Below w.heap.size w W→Calls Tryz.prog 58 #[.pointer (some ⟨wb,0,none⟩)] W fun e w'=>e = .returned (.int .i64 (base.length:Int))∧Below W.heap.size W w'):=fun W hW=>LenW_any W wb base (h.on.below hW)
 have HFD:Hid (∀W s,Below w.heap.size w W→s.size≤9223372036854775807→Calls Tryz.prog 45 #[.pointer (some ⟨wb,0,none⟩),.string s] W fun e w'=>e = .returned (.tuple #[.int .i64 ((Pm.find base s).getD 0),.bool (Pm.find base s).isSome])∧Below W.heap.size W w'):=fun W s hW hs=>zRu W wb base (h.on.below hW) s hs
 have HL0:Hid (lenJ base over 0=(base.length:Int)):=by
  show lenJ base over 0=_;unfold lenJ;rw[List.take_zero,zJq lessB_sto (zEk h.ok.ok) (zHm h.ok.ok)]
 have HLE:Hid (lenJ base over n=((zAc zAa base over).length:Int)):=by
  show lenJ base over n=_;unfold lenJ;rw[List.take_of_length_le (by omega)]
 have HLB:Hid (∀j,0≤lenJ base over j∧lenJ base over j≤8192):=fun j=>by
  unfold lenJ;have h1:(zAc zAa base (over.take j)).length≤(norm zAa (base++over.take j)).length:=List.length_filter_le _ _;have h2:=zHa (base++over.take j);rw[List.length_append]at h2;have h3:(over.take j).length≤over.length:=List.length_take_le' _ _;omega
 have hsd:=h.sdb;obtain⟨c0,c1⟩:=hsd.facts;have HSM:Hid (Sm over):=h.ok.sm.1;clear h hn hb0 hsd;rw[←HLE.out];go_enter Tryz.func35,Tryz.ntmps35;go_upto_region 2 with(go_at_call 58;refine(HLN.out _ (Below.refl _ _)).mono ?_;rintro e w1 ⟨rfl,hb1⟩;have HB1:Hid (Below w.heap.size w w1):=hb1;clear hb1)
 obtain⟨d0,d1⟩:=(HS.out w1 HB1.out).facts;clear c0 c1;rw[←HL0.out];go_wp2;clear d0 d1
 go_loopg [3,5,6,7,18] n (fun gm s3 s5 s6 s7 s18 wr=>∃(j:Nat),s18 = .int .i64 j∧j≤n∧n-j≤gm∧s3 = .int .i64 (lenJ base over j)∧Hid (Below w.heap.size w wr))
 case atStart=>exact⟨0,rfl,Nat.zero_le _,by omega,rfl,HB1⟩
 case round=>
  obtain⟨j,rfl,hj,hgm,rfl,HB⟩:=hrel;by_cases hlt:j<n
  · have hltz:(j:Int)<(n:Int):=by omega
    obtain⟨p,hp⟩:∃p,over[j]?=some p:=⟨over[j]'(by have:=HN.out;omega),List.getElem?_eq_getElem _⟩;obtain⟨g,off,hgo,hg,hcell⟩:=HR.out.at (by omega);subst hgo;obtain⟨x0,x1⟩:=(hcell j p hp).below hg HB.out;have HST:Hid (lenJ base over (j+1)=lenJ base over j-(if (Pm.find base p.1).isSome then 1 else 0)+(if 0<p.2 then 1 else 0)):=zVx HOK.out hp;have HPS:Hid (p.1.size≤9223372036854775807):=HSM.out p (List.mem_of_getElem? hp);obtain⟨q1,q2⟩:=HLB.out j;obtain⟨W5,hW5⟩:∃W5,W5=wr.alloc (.cells #[.string p.1,.int .i64 p.2] 64):=⟨_,rfl⟩;obtain⟨pb,hpb⟩:∃pb,pb=wr.heap.size:=⟨_,rfl⟩;(have hn5:W5.heap[pb]?=some (.cells #[.string p.1,.int .i64 p.2] 64):=by rw[hW5,hpb];exact zAb _ _);(have HB5:Hid (Below w.heap.size w W5):=by show Below _ _ _;rw[hW5];exact HB.out.trans (((Below.refl _ wr).alloc (Nat.le_refl _) _).mono HB.out.size));have hbd:Below W5.heap.size W5 W5.drew:=(Below.refl _ W5).drew;have HBD:Hid (Below w.heap.size w W5.drew):=HB5.out.trans (hbd.mono HB5.out.size);have hS5:S5l db wb pb p.1 W5:=⟨(HS.out W5 HB5.out).c0,by simp[World.cell?,hn5]⟩;have hSd:=hS5.below hbd;have HSD:Hid (S5l db wb pb p.1 W5.drew):=hSd;have HPB:Hid (∀W,Below W5.drew.heap.size W5.drew W→W.cell? ⟨pb,1,none⟩=some (.int .i64 p.2)):=fun W hW=>by
     have h5:W5.drew.heap[pb]?=some (.cells #[.string p.1,.int .i64 p.2] 64):=hn5;have:=(hW.block pb (Array.getElem?_eq_some_iff.1 h5).1).trans h5;simp[World.cell?,this]
    clear hcell hp hn5 hg;(go_upto_region 5 with fail);rw[←hpb,←hW5];clear hpb hW5 x0 x1 hS5 hbd;refine zAd (S:=S5l db wb pb p.1) 12 rfl zAo hSd (fun _=>?_);refine tq4 S5l.facts 0 23 1 24 2 25 3 26 ?_;simp only[sZa,sZb,sZc];refine tq2 S5l.facts 4 27 5 28 ?_;simp only[sZa,sZb,sZc];refine zAe (i:=6) (w0:=W5.drew) 29 45 #[.pointer (some ⟨wb,0,none⟩),.string p.1] (by kernel_rfl) rfl rfl (by rfl) (by kernel_rfl) ?_;refine(HFD.out _ _ HBD.out HPS.out).mono ?_;rintro e W6 ⟨rfl,hb6⟩;have hS6:=HSD.out.below hb6;have HB4:Hid (Below w.heap.size w W6):=HBD.out.trans (hb6.mono HBD.out.size);have y1:=HPB.out W6 hb6;clear hb6;obtain⟨fb,hfb⟩:∃fb,(Pm.find base p.1).isSome=fb:=⟨_,rfl⟩;obtain⟨fx,hfx⟩:∃fx,(Pm.find base p.1).getD 0=fx:=⟨_,rfl⟩;rw[hfb,hfx];have HFB:Hid ((Pm.find base p.1).isSome=fb):=hfb;clear hfb hfx;refine⟨_,rfl,hS6,fun _=>?_⟩;simp only[sZa,sZb,sZc];refine tq4 S5l.facts 7 22 8 30 9 31 10 6 ?_;simp only[sZa,sZb,sZc];refine tq S5l.facts 11 7 ?_;simp only[sZa,sZb,sZc];refine wpAnyH_done (by kernel_rfl) ?_ _;clear hS6 hSd;generalize lenJ base over j=L at *;(have w1:IntKind.i64.wrap (L-1)=L-1:=by rw[IntKind.wrap_i64];omega);have w2:IntKind.i64.wrap (L+1)=L+1:=wrap_small _ (by omega) (by omega);have w3:IntKind.i64.wrap (L-1+1)=L-1+1:=wrap_small _ (by omega) (by omega);cases fb
    · by_cases hp0:0<p.2
      · go_wp2
        go_roundg (n-(j+1));(case measure=>omega);case rel=>exact⟨j+1,by go_num,by omega,Nat.le_refl _,by rw[HST.out,HFB.out];first|rfl|(simp;done)|(simp;omega),HB4.out⟩
      · go_wp2
        go_roundg (n-(j+1));(case measure=>omega);case rel=>exact⟨j+1,by go_num,by omega,Nat.le_refl _,by rw[HST.out,HFB.out];first|rfl|(simp;done)|(simp;omega),HB4.out⟩
    · by_cases hp0:0<p.2
      · go_wp2
        go_roundg (n-(j+1));(case measure=>omega);case rel=>exact⟨j+1,by go_num,by omega,Nat.le_refl _,by rw[HST.out,HFB.out];first|rfl|(simp;done)|(simp;omega),HB4.out⟩
      · go_wp2
        go_roundg (n-(j+1));(case measure=>omega);case rel=>exact⟨j+1,by go_num,by omega,Nat.le_refl _,by rw[HST.out,HFB.out];first|rfl|(simp;done)|(simp;omega),HB4.out⟩
  · have hltz:¬(j:Int)<(n:Int):=by omega
    (have hjn:j=n:=by omega);subst hjn;go_wp2;go_ret;exact⟨rfl,HB.out⟩
end Di
end
section
open Go.RowKit Go.Shelf Go.Lib Nums Fm Pk Pm
namespace Di
def setE(L:List Pr)(s:ByteArray)(x:Int):Int:=if zAp s.data.toList=false then 140 else if x<1∨1048576<x then 141 else if (Pm.find L s).isSome=false∧4096≤L.length then 142 else 0
def setL(L:List Pr)(s:ByteArray)(x:Int):List Pr:=if setE L s x=0 then put zAa L (s,x)else L
def setH(L:List Pr)(s:ByteArray)(x:Int):Int:=if setE L s x=0 then (Pm.find L s).getD 0 else 0
def remE(L:List Pr)(s:ByteArray):Int:=if zAp s.data.toList=false then 140 else if (Pm.find L s).isSome=false then 143 else 0
def remL(L:List Pr)(s:ByteArray):List Pr:=if remE L s=0 then out s L else L
def remH(L:List Pr)(s:ByteArray):Int:=if remE L s=0 then (Pm.find L s).getD 0 else 0
theorem set_len{L:List Pr}(hb:zAf L=0){s:ByteArray}{x:Int}(he:setE L s x=0):(put zAa L (s,x)).length≤4096:=by
 have h1:=zKw lessB_sto (s,x) L (zEk hb);have h2:=(zAn hb).2.2;unfold setE at he
 split at he
 · cases he
 · split at he
   · cases he
   · split at he
     · cases he
     · rename_i _ _ h3
       show(putP zAa (s,x) false L).length≤4096;simp only at h1;cases hf:(Pm.find L s).isSome
       · rw[hf]at h1 h3
         simp at h3 h1;omega
       · rw[hf]at h1
         simp at h1;omega
theorem zUg{L:List Pr}{s:ByteArray}{x:Int}(he:setE L s x=0):zAp s.data.toList=true∧1≤x∧x≤1048576:=by
 unfold setE at he
 split at he
 · cases he
 · rename_i h1
   split at he
   · cases he
   · exact⟨by simpa using h1,by omega,by omega⟩
theorem zJl(s:ByteArray)(L:List Pr):(out s L).length≤L.length:=List.length_filter_le _ _
set_option maxHeartbeats 1000000 in
theorem zYd(B:Nat)(w:World)(db lo hi wb:Nat)(v:Value)(base over:List Pr)(h:DictAt B w db lo hi wb v base over)(hf:over.length≤32)(s:ByteArray)(hs:s.size≤9223372036854775807)(x:Int):
 Calls Tryz.prog 33 #[.pointer (some ⟨db,0,none⟩),.string s,.int .i64 x] w fun e w'=>e = .returned (.tuple #[.int .i64 (setH (zAc zAa base over) s x),.int .i64 (setE (zAc zAa base over) s x)])∧MutSays B w w' db lo hi v (setL (zAc zAa base over) s x):=by
 obtain⟨L,hL⟩:∃L,zAc zAa base over=L:=⟨_,rfl⟩;have hall:zAf L=0:=by rw[←hL];exact h.ok.all
 have HWD:Hid (∀W,Below w.heap.size w W→Calls Tryz.prog 56 #[.string s] W fun e w'=>e = .returned (.bool (zAp s.data.toList))∧Below W.heap.size W w'):=fun W hW=>by
  refine(zB5 s W (h.tabs.go (hW.mono h.size)).now hs).mono ?_;rintro e w' ⟨rfl,n,rfl⟩;exact⟨rfl,belowN (Below.refl _ _) n⟩
 have HWT:Hid (∀W,Below w.heap.size w W→Calls Tryz.prog 20 #[.pointer (some ⟨db,0,none⟩),.string s] W fun e w'=>e = .returned (.tuple #[.int .i64 ((Pm.find L s).getD 0),.bool (Pm.find L s).isSome])∧Below W.heap.size W w'):=fun W hW=>by
  have:=zG2 B W db lo hi wb v base over (h.below hW) s hs;rw[hL]at this;exact this
 have HLN:Hid (∀W,Below w.heap.size w W→Calls Tryz.prog 35 #[.pointer (some ⟨db,0,none⟩)] W fun e w'=>e = .returned (.int .i64 (L.length:Int))∧Below W.heap.size W w'):=fun W hW=>by
  have:=Len_any B W db lo hi wb v base over (h.below hW);rw[hL]at this;exact this
 have HCH:Hid (setE L s x=0→∀W,Below w.heap.size w W→Calls Tryz.prog 57 #[.pointer (some ⟨db,0,none⟩),.string s,.int .i64 x] W fun e w'=>e = .returned (.tuple #[])∧MutSays B w w' db lo hi v (put zAa L (s,x))):=fun he W hW=>by
  obtain⟨g1,g2,g3⟩:=zUg he;have hc:=Dok.change base over (s,x);rw[if_neg (by show x≠0;omega),hL]at hc;refine(zJ4 B W db lo hi wb v base over (h.below hW) hf (s,x) g1 (by show 0≤x;omega) g3 (by rw[hc];exact set_len hall he)).mono ?_;rintro e w' ⟨rfl,hm⟩;rw[hc]at hm;obtain⟨lo',hi',wb',v',b',o',k1,k2,k3,k4,k5⟩:=hm.ex;exact⟨rfl,⟨lo',hi',wb',v',b',o',k1,k2,k3,k4.imp id (fun k j e=>Nat.le_trans hW.size (k j e)),k5.imp id (fun k=>Nat.le_trans hW.size k)⟩,(Upd.of_below hW).trans hm.upd (fun _ _ g=>g)⟩
 have HSM:Hid (∀w',Below w.heap.size w w'→MutSays B w w' db lo hi v L):=fun w' hb=>by
  have:=MutSays.same h hf hb;rw[hL]at this;exact this
 rw[hL];obtain⟨ln,hln⟩:∃ln,L.length=ln:=⟨_,rfl⟩;have hlb:ln≤4096:=by rw[←hln];exact(zAn hall).2.2
 have hpw:=put_same lessB_sto (zEk hall) (p:=(s,x));have hgn:=fun(y:Int) (hy:Pm.find L s=some y)=>((zAn hall).1 _ (find_mem hy)).2.1
 clear h hf hs hL;cases hw:zAp s.data.toList with
 |false=>
  have hE:setE L s x=140:=by unfold setE;rw[if_pos hw]
  have hH:setH L s x=0:=by unfold setH;rw[hE];rfl
  have hLL:setL L s x=L:=by unfold setL;rw[hE];rfl
  rw[hE,hH,hLL];rw[hw]at HWD;clear hE hH hLL hw hall hpw hgn hlb hln;go_enter Tryz.func33,Tryz.ntmps33;go_wp2_with (go_at_call 56;refine(HWD.out _ (Below.refl _ _)).mono ?_;rintro e w1 ⟨rfl,hb1⟩);go_ret2;exact⟨rfl,HSM.out _ hb1⟩
 |true=>
  rw[hw]at HWD;by_cases hx:x<1∨1048576<x
  · have hE:setE L s x=141:=by unfold setE;rw[if_neg (by rw[hw];decide),if_pos hx]
    (have hH:setH L s x=0:=by unfold setH;rw[hE];rfl);(have hLL:setL L s x=L:=by unfold setL;rw[hE];rfl);rw[hE,hH,hLL];clear hE hH hLL hw hall hpw hgn hlb hln;by_cases hx1:x<1
    · clear hx
      go_enter Tryz.func33,Tryz.ntmps33;go_wp2_with (go_at_call 56;refine(HWD.out _ (Below.refl _ _)).mono ?_;rintro e w1 ⟨rfl,hb1⟩);go_ret2;exact⟨rfl,HSM.out _ hb1⟩
    · have hx2:1048576<x:=by omega
      clear hx;go_enter Tryz.func33,Tryz.ntmps33;go_wp2_with (go_at_call 56;refine(HWD.out _ (Below.refl _ _)).mono ?_;rintro e w1 ⟨rfl,hb1⟩);go_ret2;exact⟨rfl,HSM.out _ hb1⟩
  · have hx1:¬x<1:=by omega
    (have hx2:¬1048576<x:=by omega);cases hfd:Pm.find L s with
    |some y=>
     have hy:=hgn y hfd;(have hE:setE L s x=0:=by unfold setE;rw[if_neg (by rw[hw];decide),if_neg hx,if_neg (by rw[hfd];simp)]);(have hH:setH L s x=y:=by unfold setH;rw[if_pos hE,hfd];rfl);(have hLL:setL L s x=put zAa L (s,x):=by unfold setL;rw[if_pos hE]);have HC2:=HCH.out hE;have HC2:Hid (∀W,Below w.heap.size w W→Calls Tryz.prog 57 #[.pointer (some ⟨db,0,none⟩),.string s,.int .i64 x] W fun e w'=>e = .returned (.tuple #[])∧MutSays B w w' db lo hi v (put zAa L (s,x))):=HC2;rw[hE,hH,hLL];rw[hfd]at HWT;simp only[Option.getD_some,Option.isSome_some]at HWT;by_cases hxy:y=x
     · subst hxy
       have HPW:Hid (put zAa L (s,y)=L):=hpw hfd;clear hE hH hLL hw hall hpw hgn hlb hln hfd hx HCH HC2;go_enter Tryz.func33,Tryz.ntmps33
       go_wp2_with (first
        |(go_at_call 56;refine(HWD.out _ (Below.refl _ _)).mono ?_;rintro e w1 ⟨rfl,hb1⟩;have HB1:Hid (Below w.heap.size w w1):=hb1;clear hb1)
        |(go_at_call 20;refine(HWT.out _ HB1.out).mono ?_;rintro e w2 ⟨rfl,hb2⟩;have HB2:Hid (Below w.heap.size w w2):=HB1.out.trans (hb2.mono HB1.out.size);clear hb2))
       go_ret2;exact⟨rfl,by rw[HPW.out];exact HSM.out _ HB2.out⟩
     · have hne:(y==x)=false:=by simpa using hxy
       clear hE hH hLL hw hall hpw hgn hlb hln hfd hx HCH;go_enter Tryz.func33,Tryz.ntmps33
       go_wp2_with (first
        |(go_at_call 56;refine(HWD.out _ (Below.refl _ _)).mono ?_;rintro e w1 ⟨rfl,hb1⟩;have HB1:Hid (Below w.heap.size w w1):=hb1;clear hb1)
        |(go_at_call 20;refine(HWT.out _ HB1.out).mono ?_;rintro e w2 ⟨rfl,hb2⟩;have HB2:Hid (Below w.heap.size w w2):=HB1.out.trans (hb2.mono HB1.out.size);clear hb2)
        |(go_at_call 57;refine(HC2.out _ HB2.out).mono ?_;rintro e w3 ⟨rfl,hm3⟩;have HM3:Hid (MutSays B w w3 db lo hi v (put zAa L (s,x))):=hm3;clear hm3))
       go_ret2;exact⟨rfl,HM3.out⟩
    |none=>
     rw[hfd]at HWT;simp only[Option.getD_none,Option.isSome_none]at HWT;(have hne:(0==x)=false:=by simp;omega);by_cases hfull:4096≤ln
     · have hE:setE L s x=142:=by unfold setE;rw[if_neg (by rw[hw];decide),if_neg hx,if_pos ⟨by rw[hfd];rfl,by omega⟩]
       (have hH:setH L s x=0:=by unfold setH;rw[hE];rfl);(have hLL:setL L s x=L:=by unfold setL;rw[hE];rfl);rw[hE,hH,hLL];rw[hln]at HLN;(have hfz:(4096:Int)≤(ln:Int):=by omega);clear hE hH hLL hw hall hpw hgn hln hfd hx HCH;go_enter Tryz.func33,Tryz.ntmps33
       go_wp2_with (first
        |(go_at_call 56;refine(HWD.out _ (Below.refl _ _)).mono ?_;rintro e w1 ⟨rfl,hb1⟩;have HB1:Hid (Below w.heap.size w w1):=hb1;clear hb1)
        |(go_at_call 20;refine(HWT.out _ HB1.out).mono ?_;rintro e w2 ⟨rfl,hb2⟩;have HB2:Hid (Below w.heap.size w w2):=HB1.out.trans (hb2.mono HB1.out.size);clear hb2)
        |(go_at_call 35;refine(HLN.out _ HB2.out).mono ?_;rintro e w3 ⟨rfl,hb3⟩;have HB3:Hid (Below w.heap.size w w3):=HB2.out.trans (hb3.mono HB2.out.size);clear hb3))
       go_ret2;exact⟨rfl,HSM.out _ HB3.out⟩
     · have hE:setE L s x=0:=by unfold setE;rw[if_neg (by rw[hw];decide),if_neg hx,if_neg (by rw[hln];omega)]
       (have hH:setH L s x=0:=by unfold setH;rw[if_pos hE,hfd];rfl);(have hLL:setL L s x=put zAa L (s,x):=by unfold setL;rw[if_pos hE]);have HC2:=HCH.out hE;have HC2:Hid (∀W,Below w.heap.size w W→Calls Tryz.prog 57 #[.pointer (some ⟨db,0,none⟩),.string s,.int .i64 x] W fun e w'=>e = .returned (.tuple #[])∧MutSays B w w' db lo hi v (put zAa L (s,x))):=HC2;rw[hE,hH,hLL];rw[hln]at HLN;(have hfz:¬(4096:Int)≤(ln:Int):=by omega);clear hE hH hLL hw hall hpw hgn hln hfd hx HCH;go_enter Tryz.func33,Tryz.ntmps33
       go_wp2_with (first
        |(go_at_call 56;refine(HWD.out _ (Below.refl _ _)).mono ?_;rintro e w1 ⟨rfl,hb1⟩;have HB1:Hid (Below w.heap.size w w1):=hb1;clear hb1)
        |(go_at_call 20;refine(HWT.out _ HB1.out).mono ?_;rintro e w2 ⟨rfl,hb2⟩;have HB2:Hid (Below w.heap.size w w2):=HB1.out.trans (hb2.mono HB1.out.size);clear hb2)
        |(go_at_call 35;refine(HLN.out _ HB2.out).mono ?_;rintro e w3 ⟨rfl,hb3⟩;have HB3:Hid (Below w.heap.size w w3):=HB2.out.trans (hb3.mono HB2.out.size);clear hb3)
        |(go_at_call 57;refine(HC2.out _ HB3.out).mono ?_;rintro e w4 ⟨rfl,hm4⟩;have HM4:Hid (MutSays B w w4 db lo hi v (put zAa L (s,x))):=hm4;clear hm4))
       go_ret2;exact⟨rfl,HM4.out⟩
set_option maxHeartbeats 1000000 in
theorem zTo(B:Nat)(w:World)(db lo hi wb:Nat)(v:Value)(base over:List Pr)(h:DictAt B w db lo hi wb v base over)(hf:over.length≤32)(s:ByteArray)(hs:s.size≤9223372036854775807):
 Calls Tryz.prog 34 #[.pointer (some ⟨db,0,none⟩),.string s] w fun e w'=>e = .returned (.tuple #[.int .i64 (remH (zAc zAa base over) s),.int .i64 (remE (zAc zAa base over) s)])∧MutSays B w w' db lo hi v (remL (zAc zAa base over) s):=by
 obtain⟨L,hL⟩:∃L,zAc zAa base over=L:=⟨_,rfl⟩;have hlen:L.length≤4096:=by rw[←hL];exact h.ok.len
 have HWD:Hid (∀W,Below w.heap.size w W→Calls Tryz.prog 56 #[.string s] W fun e w'=>e = .returned (.bool (zAp s.data.toList))∧Below W.heap.size W w'):=fun W hW=>by
  refine(zB5 s W (h.tabs.go (hW.mono h.size)).now hs).mono ?_;rintro e w' ⟨rfl,n,rfl⟩;exact⟨rfl,belowN (Below.refl _ _) n⟩
 have HWT:Hid (∀W,Below w.heap.size w W→Calls Tryz.prog 20 #[.pointer (some ⟨db,0,none⟩),.string s] W fun e w'=>e = .returned (.tuple #[.int .i64 ((Pm.find L s).getD 0),.bool (Pm.find L s).isSome])∧Below W.heap.size W w'):=fun W hW=>by
  have:=zG2 B W db lo hi wb v base over (h.below hW) s hs;rw[hL]at this;exact this
 have HCH:Hid (zAp s.data.toList=true→∀W,Below w.heap.size w W→Calls Tryz.prog 57 #[.pointer (some ⟨db,0,none⟩),.string s,.int .i64 0] W fun e w'=>e = .returned (.tuple #[])∧MutSays B w w' db lo hi v (out s L)):=fun he W hW=>by
  have hc:=Dok.change base over (s,0);rw[if_pos rfl,hL]at hc;refine(zJ4 B W db lo hi wb v base over (h.below hW) hf (s,0) he (Int.le_refl _) (by show(0:Int)≤1048576;omega) (by rw[hc];exact Nat.le_trans (zJl s L) hlen)).mono ?_;rintro e w' ⟨rfl,hm⟩;rw[hc]at hm;obtain⟨lo',hi',wb',v',b',o',k1,k2,k3,k4,k5⟩:=hm.ex;exact⟨rfl,⟨lo',hi',wb',v',b',o',k1,k2,k3,k4.imp id (fun k j e=>Nat.le_trans hW.size (k j e)),k5.imp id (fun k=>Nat.le_trans hW.size k)⟩,(Upd.of_below hW).trans hm.upd (fun _ _ g=>g)⟩
 have HSM:Hid (∀w',Below w.heap.size w w'→MutSays B w w' db lo hi v L):=fun w' hb=>by
  have:=MutSays.same h hf hb;rw[hL]at this;exact this
 rw[hL];clear h hf hs hL hlen;cases hw:zAp s.data.toList with
 |false=>
  have hE:remE L s=140:=by unfold remE;rw[if_pos hw]
  have hH:remH L s=0:=by unfold remH;rw[hE];rfl
  have hLL:remL L s=L:=by unfold remL;rw[hE];rfl
  rw[hE,hH,hLL];rw[hw]at HWD;clear hE hH hLL hw;go_enter Tryz.func34,Tryz.ntmps34;go_wp2_with (go_at_call 56;refine(HWD.out _ (Below.refl _ _)).mono ?_;rintro e w1 ⟨rfl,hb1⟩);go_ret2;exact⟨rfl,HSM.out _ hb1⟩
 |true=>
  have HC2:=HCH.out hw;have HC2:Hid (∀W,Below w.heap.size w W→Calls Tryz.prog 57 #[.pointer (some ⟨db,0,none⟩),.string s,.int .i64 0] W fun e w'=>e = .returned (.tuple #[])∧MutSays B w w' db lo hi v (out s L)):=HC2;rw[hw]at HWD;cases hfd:Pm.find L s with
  |none=>
   (have hE:remE L s=143:=by unfold remE;rw[if_neg (by rw[hw];decide),if_pos (by rw[hfd];rfl)]);(have hH:remH L s=0:=by unfold remH;rw[hE];rfl);(have hLL:remL L s=L:=by unfold remL;rw[hE];rfl);rw[hE,hH,hLL];rw[hfd]at HWT;simp only[Option.getD_none,Option.isSome_none]at HWT;clear hE hH hLL hw hfd HCH HC2;go_enter Tryz.func34,Tryz.ntmps34
   go_wp2_with (first
    |(go_at_call 56;refine(HWD.out _ (Below.refl _ _)).mono ?_;rintro e w1 ⟨rfl,hb1⟩;have HB1:Hid (Below w.heap.size w w1):=hb1;clear hb1)
    |(go_at_call 20;refine(HWT.out _ HB1.out).mono ?_;rintro e w2 ⟨rfl,hb2⟩;have HB2:Hid (Below w.heap.size w w2):=HB1.out.trans (hb2.mono HB1.out.size);clear hb2))
   go_ret2;exact⟨rfl,HSM.out _ HB2.out⟩
  |some y=>
   (have hE:remE L s=0:=by unfold remE;rw[if_neg (by rw[hw];decide),if_neg (by rw[hfd];simp)]);(have hH:remH L s=y:=by unfold remH;rw[if_pos hE,hfd];rfl);(have hLL:remL L s=out s L:=by unfold remL;rw[if_pos hE]);rw[hE,hH,hLL];rw[hfd]at HWT;simp only[Option.getD_some,Option.isSome_some]at HWT;clear hE hH hLL hw hfd HCH;go_enter Tryz.func34,Tryz.ntmps34
   go_wp2_with (first
    |(go_at_call 56;refine(HWD.out _ (Below.refl _ _)).mono ?_;rintro e w1 ⟨rfl,hb1⟩;have HB1:Hid (Below w.heap.size w w1):=hb1;clear hb1)
    |(go_at_call 20;refine(HWT.out _ HB1.out).mono ?_;rintro e w2 ⟨rfl,hb2⟩;have HB2:Hid (Below w.heap.size w w2):=HB1.out.trans (hb2.mono HB1.out.size);clear hb2)
    |(go_at_call 57;refine(HC2.out _ HB2.out).mono ?_;rintro e w3 ⟨rfl,hm3⟩;have HM3:Hid (MutSays B w w3 db lo hi v (out s L)):=hm3;clear hm3))
   go_ret2;exact⟨rfl,HM3.out⟩
end Di
end
section
open Go.RowKit Go.Lib Nums Pm
namespace Bt
set_option maxHeartbeats 4000000 in
theorem same12_any(w:World)(u v:Value)(l:List Mt)(h1:MRow w u l)(h2:MRow w v l)(hl:l.length<549755813888):
 Calls Tryz.prog 24 #[u,v] w fun e w'=>e = .returned (.bool true)∧∃q,w'=w.drewN q:=by
 obtain⟨ad1,cap1,rfl⟩:=h1.form;obtain⟨ad2,cap2,rfl⟩:=h2.form;have HR1:Hid (MRow w (.slice ad1 l.length cap1) l):=h1;have HR2:Hid (MRow w (.slice ad2 l.length cap2) l):=h2;obtain⟨n1,hn1⟩:∃n,l.length=n:=⟨_,rfl⟩;have HN:Hid (l.length=n1):=hn1;rw[hn1]at HR1 HR2 hl;rw[hn1];clear h1 h2 hn1;have hneb:((n1:Int)==(n1:Int))=true:=beq_self_eq_true _;go_enter Tryz.func24,Tryz.ntmps24;go_wp2
 go_loopg [5] n1 (fun g s5 wr=>∃(k q:Nat),s5 = .int .i64 k∧k≤n1∧n1-k≤g∧wr=w.drewN q)
 case atStart=>exact⟨0,0,rfl,Nat.zero_le _,by omega,rfl⟩
 case round=>
  obtain⟨k,q,rfl,hk,hg,hwr⟩:=hrel;by_cases hlt:k<n1
  · have hltz:(k:Int)<(n1:Int):=by omega
    obtain⟨x,hx⟩:∃x,l[k]?=some x:=⟨l[k]'(by have:=HN.out;omega),List.getElem?_eq_getElem _⟩;obtain⟨b1,off1,rfl,hb1,hc1⟩:=HR1.out.at (by have:=HN.out;omega);obtain⟨b2,off2,rfl,hb2,hc2⟩:=HR2.out.at (by have:=HN.out;omega);obtain⟨c0,c1,c2⟩:=hc1 k x hx;obtain⟨d0,d1,d2⟩:=hc2 k x hx;(have c0':wr.cell? ⟨b1,off1+k*3,none⟩=some (.string x.1):=by rw[hwr];exact c0);(have c1':wr.cell? ⟨b1,off1+k*3+1,none⟩=some (.int .i64 x.2.1):=by rw[hwr];exact c1);(have c2':wr.cell? ⟨b1,off1+k*3+2,none⟩=some (.int .i64 x.2.2):=by rw[hwr];exact c2);(have d0':wr.cell? ⟨b2,off2+k*3,none⟩=some (.string x.1):=by rw[hwr];exact d0);(have d1':wr.cell? ⟨b2,off2+k*3+1,none⟩=some (.int .i64 x.2.1):=by rw[hwr];exact d1);(have d2':wr.cell? ⟨b2,off2+k*3+2,none⟩=some (.int .i64 x.2.2):=by rw[hwr];exact d2);have HW:Hid (wr=w.drewN q):=hwr;(have s1:(x.1.toList==x.1.toList)=true:=by simp);(have s2:(x.2.1==x.2.1)=true:=by simp);(have s3:(x.2.2==x.2.2)=true:=by simp);clear c0 c1 c2 d0 d1 d2 hc1 hc2 hx hwr;go_wp2_with fail;go_quiet (fail);go_wp2_with fail;go_roundg (n1-(k+1));(case measure=>omega);case rel=>exact⟨k+1,_,by go_num,by omega,Nat.le_refl _,by rw[HW.out,World.drewN_drewN]⟩
  · have hkn:k=n1:=by omega
    (have hnlt:¬(k:Int)<(n1:Int):=by omega);clear hk;go_wp2_with fail;go_ret;exact⟨rfl,q,rfl⟩
end Bt
end
section
open Go.RowKit Go.Shelf Go.Lib Nums Fm Pk Pm Fz Ed Lv
end
