import Derived.Test.YtkdhdehobdfakaaGreatDoorJ46
namespace Go.Proofs.YtkdhdehobdfakaaGreatDoor
open Go.RowKit Go.Shelf Go.Lib Nums Fm Pk Pm Fz Ed Lv
set_option maxRecDepth 100000
namespace Di
structure NewL(w w':World)(u u':Value)(L':List Pr):Prop where
 row:PRow w' u' L'
 new:u'=u∨∀k,u'.ownBlock=some k→w.heap.size≤k
 bel:Below w.heap.size w w'
theorem NewL.same{w w':World}{u:Value}{L:List Pr}(h:PRow w u L)(hb:Below w.heap.size w w'):NewL w w' u u L:=⟨h.below hb,.inl rfl,hb⟩
theorem NewL.own{w w':World}{u u':Value}{L:List Pr}(h:POwn w.heap.size w' u' L)(hb:Below w.heap.size w w'):NewL w w' u u' L:=⟨h.row,.inr fun _ e=>(zA1 h e).1,hb⟩
set_option maxHeartbeats 1000000 in
theorem zSw(w:World)(u:Value)(L:List Pr)(h:PRow w u L)(hb:zAl L=0)(s:ByteArray)(hs:s.size≤9223372036854775807)(x:Int):
 Calls Tryz.prog 24 #[u,.string s,.int .i64 x] w fun e w'=>∃ad n cap,e = .returned (.tuple #[.slice ad n cap,.int .i64 (setH L s x),.int .i64 (setE L s x)])∧NewL w w' u (.slice ad n cap) (setL L s x):=by
 obtain⟨ad,cap,rfl⟩:=h.form;have hlen:=(zAp hb).2.2;have hsm:Sm L:=fun y hy=>by
  obtain⟨_,_,_,_,hs96,_⟩:=zA3 (x:=y) ((zAp hb).1 y hy).1;omega
 have HWD:Hid (∀W,Below w.heap.size w W→Calls Tryz.prog 22 #[.string s] W fun e w'=>e = .returned (.bool (zAq s.data.toList))∧Below W.heap.size W w'):=fun W _=>zFi s W hs
 have HFD:Hid (∀W,Below w.heap.size w W→Calls Tryz.prog 50 #[.slice ad L.length cap,.string s] W fun e w'=>e = .returned (.tuple #[.int .i64 ((Pm.find L s).getD 0),.bool (Pm.find L s).isSome])∧w'=W):=fun W hW=>zH1 W _ L s (h.below hW) (by omega)
 have HPT:Hid (∀W,Below w.heap.size w W→Calls Tryz.prog 51 #[.slice ad L.length cap,.agg #[.string s,.int .i64 x]] W fun e w'=>∃a n c,e = .returned (.slice a n c)∧NewL w w' (.slice ad L.length cap) (.slice a n c) (put zAa L (s,x))):=fun W hW=>(zSx W _ L (s,x) (h.below hW) (by omega) hsm hs).mono (by
  rintro e w' ⟨v',rfl,ho,hb'⟩;obtain⟨a,c,hv⟩:=ho.shape;subst hv;exact⟨a,_,c,rfl,ho.row,.inr fun k e=>Nat.le_trans hW.size (zA1 ho e).1,hW.trans (hb'.mono hW.size)⟩)
 have HSM:Hid (∀w',Below w.heap.size w w'→NewL w w' (.slice ad L.length cap) (.slice ad L.length cap) L):=fun w' hb'=>NewL.same h hb'
 obtain⟨n,hn⟩:∃n,L.length=n:=⟨_,rfl⟩;rw[hn]at HFD HPT HSM hlen;rw[hn];clear h hsm hb hs;cases hw:zAq s.data.toList with
 |false=>
  have hE:setE L s x=140:=by unfold setE;rw[if_pos hw]
  have hH:setH L s x=0:=by unfold setH;rw[hE];rfl
  have hLL:setL L s x=L:=by unfold setL;rw[hE];rfl
  rw[hE,hH,hLL];rw[hw]at HWD;obtain⟨fx,hfx⟩:∃fx,(Pm.find L s).getD 0=fx:=⟨_,rfl⟩;obtain⟨fb,hfb⟩:∃fb,(Pm.find L s).isSome=fb:=⟨_,rfl⟩;rw[hfx,hfb]at HFD;clear hE hH hLL hw hfx hfb hn;go_enter Tryz.func24,Tryz.ntmps24
  go_wp2_with (first
   |(go_at_call 22;refine(HWD.out _ (Below.refl _ _)).mono ?_;rintro e w1 ⟨rfl,hb1⟩;have HB1:Hid (Below w.heap.size w w1):=hb1;clear hb1)
   |(go_at_call 50;refine(HFD.out _ HB1.out).mono ?_;rintro e w2 ⟨rfl,hw2⟩;rw[hw2];clear hw2))
  go_returns;exact⟨ad,n,cap,rfl,HSM.out _ HB1.out⟩
 |true=>
  rw[hw]at HWD;by_cases hx:x<1∨1048576<x
  · have hE:setE L s x=141:=by unfold setE;rw[if_neg (by rw[hw];decide),if_pos hx]
    (have hH:setH L s x=0:=by unfold setH;rw[hE];rfl);(have hLL:setL L s x=L:=by unfold setL;rw[hE];rfl);rw[hE,hH,hLL];obtain⟨fx,hfx⟩:∃fx,(Pm.find L s).getD 0=fx:=⟨_,rfl⟩;obtain⟨fb,hfb⟩:∃fb,(Pm.find L s).isSome=fb:=⟨_,rfl⟩;rw[hfx,hfb]at HFD;clear hE hH hLL hw hfx hfb hn;by_cases hx1:x<1
    · clear hx
      go_enter Tryz.func24,Tryz.ntmps24
      go_wp2_with (first
       |(go_at_call 22;refine(HWD.out _ (Below.refl _ _)).mono ?_;rintro e w1 ⟨rfl,hb1⟩;have HB1:Hid (Below w.heap.size w w1):=hb1;clear hb1)
       |(go_at_call 50;refine(HFD.out _ HB1.out).mono ?_;rintro e w2 ⟨rfl,hw2⟩;rw[hw2];clear hw2))
      go_returns;exact⟨ad,n,cap,rfl,HSM.out _ HB1.out⟩
    · have hx2:1048576<x:=by omega
      clear hx;go_enter Tryz.func24,Tryz.ntmps24
      go_wp2_with (first
       |(go_at_call 22;refine(HWD.out _ (Below.refl _ _)).mono ?_;rintro e w1 ⟨rfl,hb1⟩;have HB1:Hid (Below w.heap.size w w1):=hb1;clear hb1)
       |(go_at_call 50;refine(HFD.out _ HB1.out).mono ?_;rintro e w2 ⟨rfl,hw2⟩;rw[hw2];clear hw2))
      go_returns;exact⟨ad,n,cap,rfl,HSM.out _ HB1.out⟩
  · have hx1:¬x<1:=by omega
    (have hx2:¬1048576<x:=by omega);cases hfd:Pm.find L s with
    |some y=>
     (have hE:setE L s x=0:=by unfold setE;rw[if_neg (by rw[hw];decide),if_neg hx,if_neg (by rw[hfd];simp)]);(have hH:setH L s x=y:=by unfold setH;rw[if_pos hE,hfd];rfl);(have hLL:setL L s x=put zAa L (s,x):=by unfold setL;rw[if_pos hE]);rw[hE,hH,hLL];rw[hfd]at HFD;simp only[Option.getD_some,Option.isSome_some]at HFD;clear hE hH hLL hw hfd hx hn;go_enter Tryz.func24,Tryz.ntmps24
     go_wp2_with (first
      |(go_at_call 22;refine(HWD.out _ (Below.refl _ _)).mono ?_;rintro e w1 ⟨rfl,hb1⟩;have HB1:Hid (Below w.heap.size w w1):=hb1;clear hb1)
      |(go_at_call 50;refine(HFD.out _ HB1.out).mono ?_;rintro e w2 ⟨rfl,hw2⟩;rw[hw2];clear hw2)
      |(go_at_call 51;refine(HPT.out _ HB1.out).mono ?_;rintro e w3 ⟨a3,n3,c3,rfl,h3⟩;have H3:Hid _:=h3;clear h3))
     go_returns;exact⟨a3,n3,c3,rfl,H3.out⟩
    |none=>
     rw[hfd]at HFD;simp only[Option.getD_none,Option.isSome_none]at HFD;by_cases hfull:4096≤n
     · have hE:setE L s x=142:=by unfold setE;rw[if_neg (by rw[hw];decide),if_neg hx,if_pos ⟨by rw[hfd];rfl,by omega⟩]
       (have hH:setH L s x=0:=by unfold setH;rw[hE];rfl);(have hLL:setL L s x=L:=by unfold setL;rw[hE];rfl);rw[hE,hH,hLL];(have hfz:(4096:Int)≤(n:Int):=by omega);clear hE hH hLL hw hfd hx hn;go_enter Tryz.func24,Tryz.ntmps24
       go_wp2_with (first
        |(go_at_call 22;refine(HWD.out _ (Below.refl _ _)).mono ?_;rintro e w1 ⟨rfl,hb1⟩;have HB1:Hid (Below w.heap.size w w1):=hb1;clear hb1)
        |(go_at_call 50;refine(HFD.out _ HB1.out).mono ?_;rintro e w2 ⟨rfl,hw2⟩;rw[hw2];clear hw2))
       go_returns;exact⟨ad,n,cap,rfl,HSM.out _ HB1.out⟩
     · have hE:setE L s x=0:=by unfold setE;rw[if_neg (by rw[hw];decide),if_neg hx,if_neg (by rw[hn];omega)]
       (have hH:setH L s x=0:=by unfold setH;rw[if_pos hE,hfd];rfl);(have hLL:setL L s x=put zAa L (s,x):=by unfold setL;rw[if_pos hE]);rw[hE,hH,hLL];(have hfz:¬(4096:Int)≤(n:Int):=by omega);clear hE hH hLL hw hfd hx hn;go_enter Tryz.func24,Tryz.ntmps24
       go_wp2_with (first
        |(go_at_call 22;refine(HWD.out _ (Below.refl _ _)).mono ?_;rintro e w1 ⟨rfl,hb1⟩;have HB1:Hid (Below w.heap.size w w1):=hb1;clear hb1)
        |(go_at_call 50;refine(HFD.out _ HB1.out).mono ?_;rintro e w2 ⟨rfl,hw2⟩;rw[hw2];clear hw2)
        |(go_at_call 51;refine(HPT.out _ HB1.out).mono ?_;rintro e w3 ⟨a3,n3,c3,rfl,h3⟩;have H3:Hid _:=h3;clear h3))
       go_returns;exact⟨a3,n3,c3,rfl,H3.out⟩
theorem out_snoc{L:List Pr}{j:Nat}{p:Pr}(hp:L[j]?=some p)(s:ByteArray):out s (L.take (j+1))=out s (L.take j)++(if p.1=s then []else [p]):=by
 obtain⟨hj,e⟩:=List.getElem?_eq_some_iff.1 hp;rw[List.take_succ_eq_append_getElem hj,e];unfold out;rw[List.filter_append];by_cases h:p.1=s<;>simp[h]
set_option maxHeartbeats 2000000 in
theorem zKw(w:World)(u:Value)(L:List Pr)(h:PRow w u L)(hb:zAl L=0)(s:ByteArray)(hs:s.size≤9223372036854775807):
 Calls Tryz.prog 26 #[u,.string s] w fun e w'=>∃ad n cap,e = .returned (.tuple #[.slice ad n cap,.int .i64 (remH L s),.int .i64 (remE L s)])∧NewL w w' u (.slice ad n cap) (remL L s):=by
 obtain⟨ad,cap,rfl⟩:=h.form;have hlen:=(zAp hb).2.2;have HWD:Hid (∀W,Below w.heap.size w W→Calls Tryz.prog 22 #[.string s] W fun e w'=>e = .returned (.bool (zAq s.data.toList))∧Below W.heap.size W w'):=fun W _=>zFi s W hs
 have HFD:Hid (∀W,Below w.heap.size w W→Calls Tryz.prog 50 #[.slice ad L.length cap,.string s] W fun e w'=>e = .returned (.tuple #[.int .i64 ((Pm.find L s).getD 0),.bool (Pm.find L s).isSome])∧w'=W):=fun W hW=>zH1 W _ L s (h.below hW) (by omega)
 have HSM:Hid (∀w',Below w.heap.size w w'→NewL w w' (.slice ad L.length cap) (.slice ad L.length cap) L):=fun w' hb'=>NewL.same h hb'
 obtain⟨n,hn⟩:∃n,L.length=n:=⟨_,rfl⟩;rw[hn]at HFD HSM hlen;have HR:Hid (PRow w (.slice ad n cap) L):=by have:=h;rw[hn]at this;exact this
 have HN:Hid (L.length=n):=hn;rw[hn];clear h hb hs hn;cases hw:zAq s.data.toList with
 |false=>
  have hE:remE L s=140:=by unfold remE;rw[if_pos hw]
  have hH:remH L s=0:=by unfold remH;rw[hE];rfl
  have hLL:remL L s=L:=by unfold remL;rw[hE];rfl
  rw[hE,hH,hLL];rw[hw]at HWD;obtain⟨fx,hfx⟩:∃fx,(Pm.find L s).getD 0=fx:=⟨_,rfl⟩;obtain⟨fb,hfb⟩:∃fb,(Pm.find L s).isSome=fb:=⟨_,rfl⟩;rw[hfx,hfb]at HFD;clear hE hH hLL hw hfx hfb;go_enter Tryz.func26,Tryz.ntmps26
  go_wp2_with (first
   |(go_at_call 22;refine(HWD.out _ (Below.refl _ _)).mono ?_;rintro e w1 ⟨rfl,hb1⟩;have HB1:Hid (Below w.heap.size w w1):=hb1;clear hb1)
   |(go_at_call 50;refine(HFD.out _ HB1.out).mono ?_;rintro e w2 ⟨rfl,hw2⟩;rw[hw2];clear hw2))
  go_returns;exact⟨ad,n,cap,rfl,HSM.out _ HB1.out⟩
 |true=>
  rw[hw]at HWD;cases hfd:Pm.find L s with
  |none=>
   (have hE:remE L s=143:=by unfold remE;rw[if_neg (by rw[hw];decide),if_pos (by rw[hfd];rfl)]);(have hH:remH L s=0:=by unfold remH;rw[hE];rfl);(have hLL:remL L s=L:=by unfold remL;rw[hE];rfl);rw[hE,hH,hLL];rw[hfd]at HFD;simp only[Option.getD_none,Option.isSome_none]at HFD;clear hE hH hLL hw hfd;go_enter Tryz.func26,Tryz.ntmps26
   go_wp2_with (first
    |(go_at_call 22;refine(HWD.out _ (Below.refl _ _)).mono ?_;rintro e w1 ⟨rfl,hb1⟩;have HB1:Hid (Below w.heap.size w w1):=hb1;clear hb1)
    |(go_at_call 50;refine(HFD.out _ HB1.out).mono ?_;rintro e w2 ⟨rfl,hw2⟩;rw[hw2];clear hw2))
   go_returns;exact⟨ad,n,cap,rfl,HSM.out _ HB1.out⟩
  |some y=>
   (have hE:remE L s=0:=by unfold remE;rw[if_neg (by rw[hw];decide),if_neg (by rw[hfd];simp)]);(have hH:remH L s=y:=by unfold remH;rw[if_pos hE,hfd];rfl);(have hLL:remL L s=out s L:=by unfold remL;rw[if_pos hE]);rw[hE,hH,hLL];rw[hfd]at HFD;simp only[Option.getD_some,Option.isSome_some]at HFD;clear hE hH hLL hw hfd;go_enter Tryz.func26,Tryz.ntmps26
   go_wp2_with (first
    |(go_at_call 22;refine(HWD.out _ (Below.refl _ _)).mono ?_;rintro e w1 ⟨rfl,hb1⟩;have HB1:Hid (Below w.heap.size w w1):=hb1;clear hb1)
    |(go_at_call 50;refine(HFD.out _ HB1.out).mono ?_;rintro e w2 ⟨rfl,hw2⟩;rw[hw2];clear hw2))
   go_loopg [10,11] n (fun gm s10 s11 wr=>∃(j:Nat),s11 = .int .i64 j∧j≤n∧n-j≤gm∧Hid (POwn w.heap.size wr s10 (out s (L.take j)))∧Hid (Below w.heap.size w wr))
   case atStart=>exact⟨0,rfl,Nat.zero_le _,by omega,POwn.nil _ _,HB1⟩
   case round=>
    obtain⟨j,rfl,hj,hgm,HO,HB⟩:=hrel;obtain⟨od,oc,hso⟩:=HO.out.shape;obtain⟨on,hon⟩:∃on,(out s (L.take j)).length=on:=⟨_,rfl⟩;have hol:on≤4096:=by
     rw[←hon];exact Nat.le_trans (zJq _ _) (Nat.le_trans (List.length_take_le _ _) (by omega))
    rw[hon]at hso;subst hso;by_cases hlt:j<n
    · have hltz:(j:Int)<(n:Int):=by omega
      obtain⟨p,hp⟩:∃p,L[j]?=some p:=⟨L[j]'(by have:=HN.out;omega),List.getElem?_eq_getElem _⟩;obtain⟨g,off,hgo,hg,hcell⟩:=HR.out.at (by omega);subst hgo;obtain⟨x0,x1⟩:=(hcell j p hp).below hg HB.out;have HST:Hid (out s (L.take (j+1))=out s (L.take j)++(if p.1=s then []else [p])):=out_snoc hp s;(have HOL:Hid ((out s (L.take j)).length≤4096):=by show _≤_;rw[hon];exact hol);clear hcell hp hg hon;by_cases hps:p.1=s
      · have hse:(p.1.toList==s.toList)=true:=by rw[zFm];exact decide_eq_true hps
        (have HST:Hid (out s (L.take (j+1))=out s (L.take j)):=by have:=HST.out;rw[if_pos hps,List.append_nil]at this;exact this);clear hps;go_wp2;go_roundg (n-(j+1));(case measure=>omega);case rel=>exact⟨j+1,by go_num,by omega,Nat.le_refl _,by show POwn _ _ _ _;rw[HST.out];exact HO.out,HB⟩
      · have hse:(p.1.toList==s.toList)=false:=by rw[zFm];exact decide_eq_false hps
        (have HST:Hid (out s (L.take (j+1))=out s (L.take j)++[p]):=by have:=HST.out;rw[if_neg hps]at this;exact this);clear hps;go_wp2_with (at_builtin;refine zC3 rfl _ _ p _ rfl w.heap.size _ _ _ (out s (L.take j)) rfl HO.out rfl rfl (by have:=HOL.out;omega) HB.out.size ?_;intro v5 w5 ho5 hb5;have HO5:Hid (POwn w.heap.size w5 v5 (out s (L.take (j+1)))):=(by show POwn _ _ _ _;rw[HST.out];exact ho5);have HB5:Hid (Below w.heap.size w w5):=HB.out.trans hb5;clear ho5 hb5);go_roundg (n-(j+1));(case measure=>omega);case rel=>exact⟨j+1,by go_num,by omega,Nat.le_refl _,HO5,HB5⟩
    · have hltz:¬(j:Int)<(n:Int):=by omega
      (have HE:Hid (out s (L.take j)=out s L):=by show _=_;rw[List.take_of_length_le (by have:=HN.out;omega)]);clear hon;go_wp2;go_returns;exact⟨od,on,oc,rfl,by have:=HO.out;rw[HE.out]at this;exact NewL.own this HB.out⟩
