import Derived.Test.YtobjpljdgieklaaGreatDoorJ44
import Derived.Test.YtobjpljdgieklaaGreatDoorJ48
import Derived.Test.YtobjpljdgieklaaGreatDoorJ25
import Derived.Test.YtobjpljdgieklaaGreatDoorJ46
set_option maxRecDepth 100000
namespace Go.Proofs.YtobjpljdgieklaaGreatDoor
section
open Go.RowKit Go.Shelf Go.Lib Nums Fm Pk Pm
namespace Di
def setE(L:List Pr)(s:ByteArray)(x:Int):Int:=if zAo s.data.toList=false then 140 else if x<1∨1048576<x then 141 else if (Pm.find L s).isSome=false∧4096≤L.length then 142 else 0
def setL(L:List Pr)(s:ByteArray)(x:Int):List Pr:=if setE L s x=0 then put zAa L (s,x)else L
def setH(L:List Pr)(s:ByteArray)(x:Int):Int:=if setE L s x=0 then (Pm.find L s).getD 0 else 0
def remE(L:List Pr)(s:ByteArray):Int:=if zAo s.data.toList=false then 140 else if (Pm.find L s).isSome=false then 143 else 0
def remL(L:List Pr)(s:ByteArray):List Pr:=if remE L s=0 then out s L else L
def remH(L:List Pr)(s:ByteArray):Int:=if remE L s=0 then (Pm.find L s).getD 0 else 0
theorem set_len{L:List Pr}(hb:zAj L=0){s:ByteArray}{x:Int}(he:setE L s x=0):(put zAa L (s,x)).length≤4096:=by
 have h1:=zK1 lessB_sto (s,x) L (zF1 hb);have h2:=(zAm hb).2.2;unfold setE at he
 split at he
 · cases he
 · split at he
   · cases he
   · split at he
     · cases he
     · rename_i _ _ h3
       show(putP zAa (s,x) false L).length≤4096;simp only at h1;cases hf:(Pm.find L s).isSome
       · rw[hf]at h1 h3
         simp at h3 h1;omega
       · rw[hf]at h1
         simp at h1;omega
theorem zT0{L:List Pr}{s:ByteArray}{x:Int}(he:setE L s x=0):zAo s.data.toList=true∧1≤x∧x≤1048576:=by
 unfold setE at he
 split at he
 · cases he
 · rename_i h1
   split at he
   · cases he
   · exact⟨by simpa using h1,by omega,by omega⟩
theorem zJm(s:ByteArray)(L:List Pr):(out s L).length≤L.length:=List.length_filter_le _ _
set_option maxHeartbeats 1000000 in
theorem zXu(B:Nat)(w:World)(db lo hi wb:Nat)(v:Value)(base over:List Pr)(h:DictAt B w db lo hi wb v base over)(hf:over.length≤32)(s:ByteArray)(hs:s.size≤9223372036854775807)(x:Int):
 Calls Tryz.prog 33 #[.pointer (some ⟨db,0,none⟩),.string s,.int .i64 x] w fun e w'=>e = .returned (.tuple #[.int .i64 (setH (zAc zAa base over) s x),.int .i64 (setE (zAc zAa base over) s x)])∧MutSays B w w' db lo hi v (setL (zAc zAa base over) s x):=by
 obtain⟨L,hL⟩:∃L,zAc zAa base over=L:=⟨_,rfl⟩;have hall:zAj L=0:=by rw[←hL];exact h.ok.all
 have HWD:Hid (∀W,Below w.heap.size w W→Calls Tryz.prog 56 #[.string s] W fun e w'=>e = .returned (.bool (zAo s.data.toList))∧Below W.heap.size W w'):=fun W hW=>by
  refine(zB9 s W (h.tabs.go (hW.mono h.size)).now hs).mono ?_;rintro e w' ⟨rfl,n,rfl⟩;exact⟨rfl,belowN (Below.refl _ _) n⟩
 have HWT:Hid (∀W,Below w.heap.size w W→Calls Tryz.prog 20 #[.pointer (some ⟨db,0,none⟩),.string s] W fun e w'=>e = .returned (.tuple #[.int .i64 ((Pm.find L s).getD 0),.bool (Pm.find L s).isSome])∧Below W.heap.size W w'):=fun W hW=>by
  have:=zKd B W db lo hi wb v base over (h.below hW) s hs;rw[hL]at this;exact this
 have HLN:Hid (∀W,Below w.heap.size w W→Calls Tryz.prog 35 #[.pointer (some ⟨db,0,none⟩)] W fun e w'=>e = .returned (.int .i64 (L.length:Int))∧Below W.heap.size W w'):=fun W hW=>by
  have:=Len_any B W db lo hi wb v base over (h.below hW);rw[hL]at this;exact this
 have HCH:Hid (setE L s x=0→∀W,Below w.heap.size w W→Calls Tryz.prog 57 #[.pointer (some ⟨db,0,none⟩),.string s,.int .i64 x] W fun e w'=>e = .returned (.tuple #[])∧MutSays B w w' db lo hi v (put zAa L (s,x))):=fun he W hW=>by
  obtain⟨g1,g2,g3⟩:=zT0 he;have hc:=Dok.change base over (s,x);rw[if_neg (by show x≠0;omega),hL]at hc;refine(zJ6 B W db lo hi wb v base over (h.below hW) hf (s,x) g1 (by show 0≤x;omega) g3 (by rw[hc];exact set_len hall he)).mono ?_;rintro e w' ⟨rfl,hm⟩;rw[hc]at hm;obtain⟨lo',hi',wb',v',b',o',k1,k2,k3,k4,k5⟩:=hm.ex;exact⟨rfl,⟨lo',hi',wb',v',b',o',k1,k2,k3,k4.imp id (fun k j e=>Nat.le_trans hW.size (k j e)),k5.imp id (fun k=>Nat.le_trans hW.size k)⟩,(Upd.of_below hW).trans hm.upd (fun _ _ g=>g)⟩
 have HSM:Hid (∀w',Below w.heap.size w w'→MutSays B w w' db lo hi v L):=fun w' hb=>by
  have:=MutSays.same h hf hb;rw[hL]at this;exact this
 rw[hL];obtain⟨ln,hln⟩:∃ln,L.length=ln:=⟨_,rfl⟩;have hlb:ln≤4096:=by rw[←hln];exact(zAm hall).2.2
 have hpw:=put_same lessB_sto (zF1 hall) (p:=(s,x));have hgn:=fun(y:Int) (hy:Pm.find L s=some y)=>((zAm hall).1 _ (find_mem hy)).2.1
 clear h hf hs hL;cases hw:zAo s.data.toList with
 |false=>
  have hE:setE L s x=140:=by unfold setE;rw[if_pos hw]
  have hH:setH L s x=0:=by unfold setH;rw[hE];rfl
  have hLL:setL L s x=L:=by unfold setL;rw[hE];rfl
  rw[hE,hH,hLL];rw[hw]at HWD;clear hE hH hLL hw hall hpw hgn hlb hln;go_enter Tryz.func33,Tryz.ntmps33;go_wp2_with (go_at_call 56;refine(HWD.out _ (Below.refl _ _)).mono ?_;rintro e w1 ⟨rfl,hb1⟩);go_ret2;exact⟨rfl,HSM.out _ hb1⟩
 |true=>
  rw[hw]at HWD;by_cases hx:x<1∨1048576<x
  · have hE:setE L s x=141:=by unfold setE;rw[if_neg (by rw[hw];decide),if_pos hx]
    (have hH:setH L s x=0:=by unfold setH;rw[hE];rfl);(have hLL:setL L s x=L:=by unfold setL;rw[hE];rfl);rw[hE,hH,hLL];clear hE hH hLL hw hall hpw hgn hlb hln;by_cases hx1:x<1
    · clear hx
      go_enter Tryz.func33,Tryz.ntmps33;go_wp2_with (go_at_call 56;refine(HWD.out _ (Below.refl _ _)).mono ?_;rintro e w1 ⟨rfl,hb1⟩);go_ret2;exact⟨rfl,HSM.out _ hb1⟩
    · have hx2:1048576<x:=by omega
      clear hx;go_enter Tryz.func33,Tryz.ntmps33;go_wp2_with (go_at_call 56;refine(HWD.out _ (Below.refl _ _)).mono ?_;rintro e w1 ⟨rfl,hb1⟩);go_ret2;exact⟨rfl,HSM.out _ hb1⟩
  · have hx1:¬x<1:=by omega
    (have hx2:¬1048576<x:=by omega);cases hfd:Pm.find L s with
    |some y=>
     have hy:=hgn y hfd;(have hE:setE L s x=0:=by unfold setE;rw[if_neg (by rw[hw];decide),if_neg hx,if_neg (by rw[hfd];simp)]);(have hH:setH L s x=y:=by unfold setH;rw[if_pos hE,hfd];rfl);(have hLL:setL L s x=put zAa L (s,x):=by unfold setL;rw[if_pos hE]);have HC2:=HCH.out hE;have HC2:Hid (∀W,Below w.heap.size w W→Calls Tryz.prog 57 #[.pointer (some ⟨db,0,none⟩),.string s,.int .i64 x] W fun e w'=>e = .returned (.tuple #[])∧MutSays B w w' db lo hi v (put zAa L (s,x))):=HC2;rw[hE,hH,hLL];rw[hfd]at HWT;simp only[Option.getD_some,Option.isSome_some]at HWT;by_cases hxy:y=x
     · subst hxy
       have HPW:Hid (put zAa L (s,y)=L):=hpw hfd;clear hE hH hLL hw hall hpw hgn hlb hln hfd hx HCH HC2;go_enter Tryz.func33,Tryz.ntmps33
       go_wp2_with (first
        |(go_at_call 56;refine(HWD.out _ (Below.refl _ _)).mono ?_;rintro e w1 ⟨rfl,hb1⟩;have HB1:Hid (Below w.heap.size w w1):=hb1;clear hb1)
        |(go_at_call 20;refine(HWT.out _ HB1.out).mono ?_;rintro e w2 ⟨rfl,hb2⟩;have HB2:Hid (Below w.heap.size w w2):=HB1.out.trans (hb2.mono HB1.out.size);clear hb2))
       go_ret2;exact⟨rfl,by rw[HPW.out];exact HSM.out _ HB2.out⟩
     · have hne:(y==x)=false:=by simpa using hxy
       clear hE hH hLL hw hall hpw hgn hlb hln hfd hx HCH;go_enter Tryz.func33,Tryz.ntmps33
       go_wp2_with (first
        |(go_at_call 56;refine(HWD.out _ (Below.refl _ _)).mono ?_;rintro e w1 ⟨rfl,hb1⟩;have HB1:Hid (Below w.heap.size w w1):=hb1;clear hb1)
        |(go_at_call 20;refine(HWT.out _ HB1.out).mono ?_;rintro e w2 ⟨rfl,hb2⟩;have HB2:Hid (Below w.heap.size w w2):=HB1.out.trans (hb2.mono HB1.out.size);clear hb2)
        |(go_at_call 57;refine(HC2.out _ HB2.out).mono ?_;rintro e w3 ⟨rfl,hm3⟩;have HM3:Hid (MutSays B w w3 db lo hi v (put zAa L (s,x))):=hm3;clear hm3))
       go_ret2;exact⟨rfl,HM3.out⟩
    |none=>
     rw[hfd]at HWT;simp only[Option.getD_none,Option.isSome_none]at HWT;(have hne:(0==x)=false:=by simp;omega);by_cases hfull:4096≤ln
     · have hE:setE L s x=142:=by unfold setE;rw[if_neg (by rw[hw];decide),if_neg hx,if_pos ⟨by rw[hfd];rfl,by omega⟩]
       (have hH:setH L s x=0:=by unfold setH;rw[hE];rfl);(have hLL:setL L s x=L:=by unfold setL;rw[hE];rfl);rw[hE,hH,hLL];rw[hln]at HLN;(have hfz:(4096:Int)≤(ln:Int):=by omega);clear hE hH hLL hw hall hpw hgn hln hfd hx HCH;go_enter Tryz.func33,Tryz.ntmps33
       go_wp2_with (first
        |(go_at_call 56;refine(HWD.out _ (Below.refl _ _)).mono ?_;rintro e w1 ⟨rfl,hb1⟩;have HB1:Hid (Below w.heap.size w w1):=hb1;clear hb1)
        |(go_at_call 20;refine(HWT.out _ HB1.out).mono ?_;rintro e w2 ⟨rfl,hb2⟩;have HB2:Hid (Below w.heap.size w w2):=HB1.out.trans (hb2.mono HB1.out.size);clear hb2)
        |(go_at_call 35;refine(HLN.out _ HB2.out).mono ?_;rintro e w3 ⟨rfl,hb3⟩;have HB3:Hid (Below w.heap.size w w3):=HB2.out.trans (hb3.mono HB2.out.size);clear hb3))
       go_ret2;exact⟨rfl,HSM.out _ HB3.out⟩
     · have hE:setE L s x=0:=by unfold setE;rw[if_neg (by rw[hw];decide),if_neg hx,if_neg (by rw[hln];omega)]
       (have hH:setH L s x=0:=by unfold setH;rw[if_pos hE,hfd];rfl);(have hLL:setL L s x=put zAa L (s,x):=by unfold setL;rw[if_pos hE]);have HC2:=HCH.out hE;have HC2:Hid (∀W,Below w.heap.size w W→Calls Tryz.prog 57 #[.pointer (some ⟨db,0,none⟩),.string s,.int .i64 x] W fun e w'=>e = .returned (.tuple #[])∧MutSays B w w' db lo hi v (put zAa L (s,x))):=HC2;rw[hE,hH,hLL];rw[hln]at HLN;(have hfz:¬(4096:Int)≤(ln:Int):=by omega);clear hE hH hLL hw hall hpw hgn hln hfd hx HCH;go_enter Tryz.func33,Tryz.ntmps33
       go_wp2_with (first
        |(go_at_call 56;refine(HWD.out _ (Below.refl _ _)).mono ?_;rintro e w1 ⟨rfl,hb1⟩;have HB1:Hid (Below w.heap.size w w1):=hb1;clear hb1)
        |(go_at_call 20;refine(HWT.out _ HB1.out).mono ?_;rintro e w2 ⟨rfl,hb2⟩;have HB2:Hid (Below w.heap.size w w2):=HB1.out.trans (hb2.mono HB1.out.size);clear hb2)
        |(go_at_call 35;refine(HLN.out _ HB2.out).mono ?_;rintro e w3 ⟨rfl,hb3⟩;have HB3:Hid (Below w.heap.size w w3):=HB2.out.trans (hb3.mono HB2.out.size);clear hb3)
        |(go_at_call 57;refine(HC2.out _ HB3.out).mono ?_;rintro e w4 ⟨rfl,hm4⟩;have HM4:Hid (MutSays B w w4 db lo hi v (put zAa L (s,x))):=hm4;clear hm4))
       go_ret2;exact⟨rfl,HM4.out⟩
set_option maxHeartbeats 1000000 in
theorem zTa(B:Nat)(w:World)(db lo hi wb:Nat)(v:Value)(base over:List Pr)(h:DictAt B w db lo hi wb v base over)(hf:over.length≤32)(s:ByteArray)(hs:s.size≤9223372036854775807):
 Calls Tryz.prog 34 #[.pointer (some ⟨db,0,none⟩),.string s] w fun e w'=>e = .returned (.tuple #[.int .i64 (remH (zAc zAa base over) s),.int .i64 (remE (zAc zAa base over) s)])∧MutSays B w w' db lo hi v (remL (zAc zAa base over) s):=by
 obtain⟨L,hL⟩:∃L,zAc zAa base over=L:=⟨_,rfl⟩;have hlen:L.length≤4096:=by rw[←hL];exact h.ok.len
 have HWD:Hid (∀W,Below w.heap.size w W→Calls Tryz.prog 56 #[.string s] W fun e w'=>e = .returned (.bool (zAo s.data.toList))∧Below W.heap.size W w'):=fun W hW=>by
  refine(zB9 s W (h.tabs.go (hW.mono h.size)).now hs).mono ?_;rintro e w' ⟨rfl,n,rfl⟩;exact⟨rfl,belowN (Below.refl _ _) n⟩
 have HWT:Hid (∀W,Below w.heap.size w W→Calls Tryz.prog 20 #[.pointer (some ⟨db,0,none⟩),.string s] W fun e w'=>e = .returned (.tuple #[.int .i64 ((Pm.find L s).getD 0),.bool (Pm.find L s).isSome])∧Below W.heap.size W w'):=fun W hW=>by
  have:=zKd B W db lo hi wb v base over (h.below hW) s hs;rw[hL]at this;exact this
 have HCH:Hid (zAo s.data.toList=true→∀W,Below w.heap.size w W→Calls Tryz.prog 57 #[.pointer (some ⟨db,0,none⟩),.string s,.int .i64 0] W fun e w'=>e = .returned (.tuple #[])∧MutSays B w w' db lo hi v (out s L)):=fun he W hW=>by
  have hc:=Dok.change base over (s,0);rw[if_pos rfl,hL]at hc;refine(zJ6 B W db lo hi wb v base over (h.below hW) hf (s,0) he (Int.le_refl _) (by show(0:Int)≤1048576;omega) (by rw[hc];exact Nat.le_trans (zJm s L) hlen)).mono ?_;rintro e w' ⟨rfl,hm⟩;rw[hc]at hm;obtain⟨lo',hi',wb',v',b',o',k1,k2,k3,k4,k5⟩:=hm.ex;exact⟨rfl,⟨lo',hi',wb',v',b',o',k1,k2,k3,k4.imp id (fun k j e=>Nat.le_trans hW.size (k j e)),k5.imp id (fun k=>Nat.le_trans hW.size k)⟩,(Upd.of_below hW).trans hm.upd (fun _ _ g=>g)⟩
 have HSM:Hid (∀w',Below w.heap.size w w'→MutSays B w w' db lo hi v L):=fun w' hb=>by
  have:=MutSays.same h hf hb;rw[hL]at this;exact this
 rw[hL];clear h hf hs hL hlen;cases hw:zAo s.data.toList with
 |false=>
  have hE:remE L s=140:=by unfold remE;rw[if_pos hw]
  have hH:remH L s=0:=by unfold remH;rw[hE];rfl
  have hLL:remL L s=L:=by unfold remL;rw[hE];rfl
  rw[hE,hH,hLL];rw[hw]at HWD;clear hE hH hLL hw;go_enter Tryz.func34,Tryz.ntmps34;go_wp2_with (go_at_call 56;refine(HWD.out _ (Below.refl _ _)).mono ?_;rintro e w1 ⟨rfl,hb1⟩);go_ret2;exact⟨rfl,HSM.out _ hb1⟩
 |true=>
  have HC2:=HCH.out hw;have HC2:Hid (∀W,Below w.heap.size w W→Calls Tryz.prog 57 #[.pointer (some ⟨db,0,none⟩),.string s,.int .i64 0] W fun e w'=>e = .returned (.tuple #[])∧MutSays B w w' db lo hi v (out s L)):=HC2;rw[hw]at HWD;cases hfd:Pm.find L s with
  |none=>
   (have hE:remE L s=143:=by unfold remE;rw[if_neg (by rw[hw];decide),if_pos (by rw[hfd];rfl)]);(have hH:remH L s=0:=by unfold remH;rw[hE];rfl);(have hLL:remL L s=L:=by unfold remL;rw[hE];rfl);rw[hE,hH,hLL];rw[hfd]at HWT;simp only[Option.getD_none,Option.isSome_none]at HWT;clear hE hH hLL hw hfd HCH HC2;go_enter Tryz.func34,Tryz.ntmps34
   go_wp2_with (first
    |(go_at_call 56;refine(HWD.out _ (Below.refl _ _)).mono ?_;rintro e w1 ⟨rfl,hb1⟩;have HB1:Hid (Below w.heap.size w w1):=hb1;clear hb1)
    |(go_at_call 20;refine(HWT.out _ HB1.out).mono ?_;rintro e w2 ⟨rfl,hb2⟩;have HB2:Hid (Below w.heap.size w w2):=HB1.out.trans (hb2.mono HB1.out.size);clear hb2))
   go_ret2;exact⟨rfl,HSM.out _ HB2.out⟩
  |some y=>
   (have hE:remE L s=0:=by unfold remE;rw[if_neg (by rw[hw];decide),if_neg (by rw[hfd];simp)]);(have hH:remH L s=y:=by unfold remH;rw[if_pos hE,hfd];rfl);(have hLL:remL L s=out s L:=by unfold remL;rw[if_pos hE]);rw[hE,hH,hLL];rw[hfd]at HWT;simp only[Option.getD_some,Option.isSome_some]at HWT;clear hE hH hLL hw hfd HCH;go_enter Tryz.func34,Tryz.ntmps34
   go_wp2_with (first
    |(go_at_call 56;refine(HWD.out _ (Below.refl _ _)).mono ?_;rintro e w1 ⟨rfl,hb1⟩;have HB1:Hid (Below w.heap.size w w1):=hb1;clear hb1)
    |(go_at_call 20;refine(HWT.out _ HB1.out).mono ?_;rintro e w2 ⟨rfl,hb2⟩;have HB2:Hid (Below w.heap.size w w2):=HB1.out.trans (hb2.mono HB1.out.size);clear hb2)
    |(go_at_call 57;refine(HC2.out _ HB2.out).mono ?_;rintro e w3 ⟨rfl,hm3⟩;have HM3:Hid (MutSays B w w3 db lo hi v (out s L)):=hm3;clear hm3))
   go_ret2;exact⟨rfl,HM3.out⟩
end Di
end
section
open Go.RowKit Go.Shelf Go.Lib Nums Fm Pk Pm Fz Ed Lv
def SRA(g p:Nat)(x:Pr)(W:World):Prop:=W.cell? ⟨g,p,none⟩=some (.string x.1)∧W.cell? ⟨g,p+1,none⟩=some (.int .i64 x.2)
theorem SRA.facts{g p:Nat}{x:Pr}{W:World}(h:SRA g p x W):W.cell? ⟨g,p,none⟩=some (.string x.1)∧W.cell? ⟨g,p+1,none⟩=some (.int .i64 x.2):=h
set_option maxHeartbeats 4000000 in
theorem zMm(w:World)(v:Value)(l:List Pr)(h:PRow w v l)(hC:zAj l=0)(word:ByteArray)(e:Int)(hm:word.size≤9223372036854775807):
 Calls Tryz.prog 49 #[v,.string word,.int .i64 e] w fun x w'=>∃v' c,x = .returned (.tuple #[v',.int .i64 c])∧AllSays w w' l word.data.toList e v' c:=by
 obtain⟨ad,cap,rfl⟩:=h.form;obtain⟨hall,_,hfew⟩:=zAm hC;have HRI:Hid (Calls Tryz.prog 86 #[.string word,.int .i64 e] w fun x w'=>x = .returned (.bool (Go.Proofs.YtobjpljdgieklaaGreatDoor.rightB word.data.toList e))∧Below w.heap.size w w'):=zTb word e w hm;obtain⟨n,hn⟩:∃n,l.length=n:=⟨_,rfl⟩;cases hr:Go.Proofs.YtobjpljdgieklaaGreatDoor.rightB word.data.toList e with
 |false=>
  rw[hr]at HRI;have HR:Hid (Go.Proofs.YtobjpljdgieklaaGreatDoor.rightB word.data.toList e=false):=hr;clear hr h hall;rw[hn];go_enter Tryz.func49,Tryz.ntmps49;go_wp2_with (go_at_call 86;refine HRI.out.mono ?_;rintro x w1 ⟨rfl,hb1⟩);go_ret2;exact⟨_,_,rfl,hb1,.inl ⟨HR.out,rfl,rfl⟩⟩
 |true=>
  rw[hr]at HRI;have hh:=hr;simp only[Go.Proofs.YtobjpljdgieklaaGreatDoor.rightB,Bool.and_eq_true,decide_eq_true_eq]at hh;obtain⟨⟨hw,h0⟩,h3⟩:=hh;obtain⟨xs,hxs,hx1,hx24,hx96,_⟩:=zAw (x:=(word,0)) hw;simp only at hxs hx96;obtain⟨d,rfl⟩:∃d:Nat,e=(d:Int):=⟨e.toNat,by omega⟩;have HRT:Hid (∀v w',Below w.heap.size w w'→GOwn 74 3 w.heap.size w' v ((zBe xs d l).map cellsM)→AllSays w w' l word.data.toList (d:Int) v 0):=fun v w' g1 g2=>⟨g1,.inr ⟨hr,rfl,xs,d,hxs,rfl,hx24,by omega,g2⟩⟩
  have HDS:Hid (∀x∈l,∀W,Calls Tryz.prog 87 #[.string x.1,.string word] W fun e w'=>e = .returned (.tuple #[.int .i64 (lv (zB0 x).1 xs:Int),.bool true])∧Below W.heap.size W w'):=fun x hx W=>by
   obtain⟨_,_,_,_,hs96,_⟩:=zAw (hall x hx).1;have:=zI0 x.1 word W (by omega) (by omega);rw[zWp (hall x hx).1 hxs hx24]at this;exact this
  have HROW:Hid (PRow w (.slice ad l.length cap) l):=h;have HN:Hid (l.length=n):=hn;rw[hn]at hfew HROW ⊢;clear hr h hall hw hxs hn hx96;go_enter Tryz.func49,Tryz.ntmps49;go_wp2_with (go_at_call 86;refine HRI.out.mono ?_;rintro x w1 ⟨rfl,hb1⟩)
  go_loopg [8,9,10,11] n (fun gm s8 s9 _ _ wr=>∃(k:Nat),s9 = .int .i64 k∧k≤n∧n-k≤gm∧Hid (GOwn 74 3 w.heap.size wr s8 ((zBe xs d (l.take k)).map cellsM))∧Hid (Below w.heap.size w wr))
  case atStart=>exact⟨0,rfl,Nat.zero_le _,by omega,GOwn.nil _ _ _ _,hb1⟩
  case round=>
   rename_i s8 s9 s10 s11
   obtain⟨k,hs9,hk,hg,HG,HB⟩:=hrel;subst hs9;obtain⟨vd,vc,hs8,_⟩:=GOwn.shape HG.out;rw[List.length_map]at hs8;obtain⟨vn,hvn⟩:∃vn,(zBe xs d (l.take k)).length=vn:=⟨_,rfl⟩;rw[hvn]at hs8;have hvs:vn≤4096:=by
    have:=zGj xs d (l.take k);rw[List.length_take]at this;omega
   subst hs8;by_cases hlt:k<n
   · have hltz:(k:Int)<(n:Int):=by omega
     obtain⟨x,hx⟩:∃x,l[k]?=some x:=⟨l[k]'(by have:=HN.out;omega),List.getElem?_eq_getElem _⟩;obtain⟨g,off,had,hgb,hcell⟩:=HROW.out.at (by have:=HN.out;omega);subst had;obtain⟨d0,d1⟩:=hcell k x hx;(have HC:Hid (∀W,Below w.heap.size w W→SRA g (off+k*2) x W):=fun W hW=>⟨(hW.cell (p:=⟨g,off+k*2,none⟩) hgb).trans d0,(hW.cell (p:=⟨g,off+k*2+1,none⟩) hgb).trans d1⟩);obtain⟨c0,c1⟩:=HC.out wr HB.out;have HDX:Hid (∀W,Calls Tryz.prog 87 #[.string x.1,.string word] W fun e w'=>e = .returned (.tuple #[.int .i64 (lv (zB0 x).1 xs:Int),.bool true])∧Below W.heap.size W w'):=HDS.out x (List.mem_of_getElem? hx);have HSN:Hid (zBe xs d (l.take (k+1))=zBe xs d (l.take k)++(if lv (zB0 x).1 xs≤d then [(x.1,x.2,(lv (zB0 x).1 xs:Int))]else [])):=zOp xs d hx;obtain⟨y,hy⟩:∃y,lv (zB0 x).1 xs=y:=⟨_,rfl⟩;rw[hy]at HDX HSN;(have hwk:IntKind.i64.wrap ((k:Int)+1)=(k:Int)+1:=by rw[IntKind.wrap_i64];omega);clear hx hcell d0 d1 hy hgb hvn;by_cases hyd:y≤d
     · have hydz:(y:Int)≤(d:Int):=by omega
       (go_upto_region 9 with(go_at_call 87;refine(HDX.out _).mono ?_;rintro e w2 ⟨rfl,hb2⟩));have hbW2:Below w.heap.size w w2:=HB.out.trans (hb2.mono HB.out.size);obtain⟨V3,hV3⟩:∃V3,w2.drew=V3:=⟨_,rfl⟩;(have hb3:Below w2.heap.size w2 V3:=by rw[←hV3];exact(Below.refl _ w2).drew);obtain⟨V4,hV4⟩:∃V4,V3.alloc (.cells #[.string x.1,.int .i64 x.2,.int .i64 (y:Int)] 74)=V4:=⟨_,rfl⟩;(have hb34:Below V3.heap.size V3 V4:=by rw[←hV4];exact(Below.refl _ V3).alloc (Nat.le_refl _) _);(have hn4:V4.heap[V3.heap.size]?=some (.cells #[.string x.1,.int .i64 x.2,.int .i64 (y:Int)] 74):=by rw[←hV4];exact zAb _ _);have hbr4:Below wr.heap.size wr V4:=(hb2.trans (hb3.mono hb2.size)).trans (hb34.mono (Nat.le_trans hb2.size hb3.size));have hbW3:Below w.heap.size w V3:=hbW2.trans (hb3.mono hbW2.size);have hbW4:Below w.heap.size w V4:=hbW3.trans (hb34.mono hbW3.size);obtain⟨v',W',hap,ho',hgr,hob⟩:=zA9 rtyM (GOwn.below HG.out hbr4) hbW4.size (cellsM_ok (x.1,x.2,(y:Int))) (nb:=V3.heap.size) (fun i u hi=>by simp only[World.cell?,hn4];simpa[cellsM]using hi) (by rw[List.length_map];have h1:=zGj xs d (l.take k);rw[List.length_take]at h1;omega) 50 1;have hbW5:Below w.heap.size w W':=hbW4.trans (zWe (GOwn.below HG.out hbr4) hgr hbW4.size);obtain⟨vd2,vn2,vc2,hvv2⟩:∃vd vn vc,v' = .slice vd vn vc:=by
        obtain⟨ad,cap,e,_⟩:=GOwn.shape ho';exact⟨_,_,_,e⟩
       subst hvv2;have HEND:Hid (GOwn 74 3 w.heap.size W' (.slice vd2 vn2 vc2) ((zBe xs d (l.take (k+1))).map cellsM)):=by
        show GOwn _ _ _ _ _ _;rw[HSN.out,if_pos hyd,List.map_append];exact ho'
       have HBE:Hid (Below w.heap.size w W'):=hbW5;have HAP:Hid ((Builtin.append_ #[50,50] 50 #[.slice vd vn vc,.slice (some ⟨V3.heap.size,0,none⟩) 1 1]).run Tryz.prog V4 = .ok (.slice vd2 vn2 vc2) W'):=hap;have HV4:Hid (V3.alloc (.cells #[.string x.1,.int .i64 x.2,.int .i64 (y:Int)] 74)=V4):=hV4;have hS3:=HC.out V3 hbW3;have hS4:=HC.out V4 hbW4;have hS5:=HC.out W' hbW5;(have hS3d:SRA g (off+k*2) x w2.drew:=by rw[hV3];exact hS3);clear hap ho' hgr hob hb3 hb34 hn4 hbr4 hbW3 hbW4 hbW5 hbW2 hb2 hV4 HG HB HSN c0 c1;refine zAe (S:=SRA g (off+k*2) x) 16 rfl zAr hS3d (fun _=>?_);rw[hV3];clear hV3 hS3d;refine tq4 SRA.facts 0 38 1 39 2 40 3 41 ?_;simp only[sZa,sZb,sZc];refine tq4 SRA.facts 4 42 5 43 6 44 7 45 ?_;simp only[sZa,sZb,sZc];refine tq4 SRA.facts 8 46 9 47 10 48 11 49 ?_;simp only[sZa,sZb,sZc];refine tq SRA.facts 12 50 ?_;simp only[sZa,sZb,sZc];refine zAp (i:=13) (v := .slice (some ⟨V3.heap.size,0,none⟩) 1 1) (w':=V4) 51 (by kernel_rfl) rfl rfl (by rfl) (by rw[←HV4.out];go_simp;first|done|exact rfl) hS4 (fun _=>?_);simp only[sZa,sZb,sZc];refine zAp (i:=14) (v := .slice vd2 vn2 vc2) (w':=W') 52 (by kernel_rfl) rfl rfl (by rfl) (zDs HAP.out) hS5 (fun _=>?_);simp only[sZa,sZb,sZc];refine zAp (i:=15) (v := .slice vd2 vn2 vc2) (w':=W') 8 (by kernel_rfl) rfl rfl (by rfl) (by kernel_rfl) hS5 (fun _=>?_);simp only[sZa,sZb,sZc];refine wpAnyH_done (by kernel_rfl) ?_ _;clear hS3 hS4 hS5 HAP HV4;go_wp2;go_roundg (n-(k+1));(case measure=>omega);case rel=>exact⟨k+1,by go_num,by omega,Nat.le_refl _,HEND,HBE⟩
     · have hydz:¬(y:Int)≤(d:Int):=by omega
       have HG2:Hid (∀W,Below wr.heap.size wr W→GOwn 74 3 w.heap.size W (.slice vd vn vc) ((zBe xs d (l.take (k+1))).map cellsM)):=fun W hW=>by
        rw[HSN.out,if_neg hyd,List.append_nil];exact GOwn.below HG.out hW
       go_wp2_with (go_at_call 87;refine(HDX.out _).mono ?_;rintro e w2 ⟨rfl,hb2⟩);go_roundg (n-(k+1));(case measure=>omega);case rel=>exact⟨k+1,by go_num,by omega,Nat.le_refl _,HG2.out _ hb2,HB.out.trans (hb2.mono HB.out.size)⟩
   · have hkn:k=n:=by omega
     (have hnlt:¬(k:Int)<(n:Int):=by omega);have HFIN:Hid (AllSays w wr l word.data.toList (d:Int) (.slice vd vn vc) 0):=by
      refine HRT.out _ _ HB.out ?_;have h1:=HG.out;rw[hkn,List.take_of_length_le (by rw[HN.out];exact Nat.le_refl _)]at h1;exact h1
     clear hk HG hkn hvn;go_wp2;go_ret2;exact⟨_,_,rfl,HFIN.out⟩
theorem zOj(w:World)(v:Value)(l:List Pr)(h:PRow w v l)(hC:zAj l=0)(word:ByteArray)(e:Int)(hm:word.size≤9223372036854775807):
 Calls Tryz.prog 49 #[v,.string word,.int .i64 e] w fun x w'=>∃ad cap,x = .returned (.tuple #[.slice ad (allL l word.data.toList e).length cap,.int .i64 (allC word.data.toList e)])∧MRow w' (.slice ad (allL l word.data.toList e).length cap) (allL l word.data.toList e)∧Below w.heap.size w w':=by
 refine(zMm w v l h hC word e hm).mono ?_;rintro x w' ⟨v,c,rfl,h⟩;obtain⟨rfl,hG,hb⟩:=h.told;obtain⟨ad,cap,hv,_⟩:=GOwn.shape hG;rw[List.length_map]at hv;subst hv;exact⟨ad,cap,rfl,GOwn.reads hG,hb⟩
end
section
open Go.ChangeShapes Go.WideShapes Go.ChangeAt Go.RowKit Go.Deep Fz
def SmM(m:Mt):Prop:=m.1.size≤9223372036854775807
theorem query_in{H:Type}{enc:TypeId×Value→H}{W:World}{base:Nat}{v:Value}{d:DataW H}{p:List MemPlace}
 (hok:Value.okWide Tryz.prog W .any base 49 v) (h:DataW.Trod enc Tryz.prog W 0 (fun _=>true) true 49 v d p):∃q:Mt,v = .agg #[.string q.1,.int .i64 q.2.1,.int .i64 q.2.2]∧SmM q:=by
 obtain⟨cs,rfl,hsz⟩:=okWide_struct Tryz.underlying49 hok;obtain⟨fuel,hf⟩:=h;obtain⟨y0,y1,y2,n,_,hl,g0,g1,g2⟩:=trod_struct3 Tryz.underlying49 hf;rw[show Tryz.prog.cellsOf 49=3 by kernel_rfl]at hl;have ec:(Value.agg cs).cells.toList=cs.toList:=by simp[Value.cells]
 rw[ec]at hl g0 g1 g2
 match hcs:cs.toList,hl with
 |[v0,v1,v2],_=>
  rw[hcs]at g0 g1 g2;simp[zKr,zLh]at g0 g1 g2;obtain⟨s,e0,_,w0⟩:=DataW.trod_string Tryz.underlying9 g0;obtain⟨z,e1,_,w1⟩:=DataW.trod_int Tryz.underlying3 g1;obtain⟨z2,e2,_,w2⟩:=DataW.trod_int Tryz.underlying3 g2;simp only[List.cons.injEq,and_true]at e0 e1 e2;subst e0 e1 e2;have e3:cs=#[.string s,.int .i64 z,.int .i64 z2]:=Array.toList_inj.1 hcs;subst e3;have hw:=w0;unfold maxLen at hw;exact⟨(s,z,z2),rfl,hw⟩
end
