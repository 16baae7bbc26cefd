import Derived.Test.YtobjpljdgieklaaGreatDoorJ49
import Derived.Test.YtobjpljdgieklaaGreatDoorJ50
set_option maxRecDepth 100000
set_option maxHeartbeats 8000000
namespace Go.Proofs.YtobjpljdgieklaaGreatDoor
section
open Go.RowKit Go.Shelf Go.Lib Nums Fm Pk Pm Fz Ed Lv
namespace Di
structure NewL(w w':World)(u u':Value)(L':List Pr):Prop where
 row:PRow w' u' L'
 new:u'=u∨∀k,u'.ownBlock=some k→w.heap.size≤k
 bel:Below w.heap.size w w'
theorem NewL.same{w w':World}{u:Value}{L:List Pr}(h:PRow w u L)(hb:Below w.heap.size w w'):NewL w w' u u L:=⟨h.below hb,.inl rfl,hb⟩
theorem NewL.own{w w':World}{u u':Value}{L:List Pr}(h:POwn w.heap.size w' u' L)(hb:Below w.heap.size w w'):NewL w w' u u' L:=⟨h.row,.inr fun _ e=>(zA2 h e).1,hb⟩
theorem zR5(w:World)(u:Value)(L:List Pr)(h:PRow w u L)(hb:zAj L=0)(s:ByteArray)(hs:s.size≤9223372036854775807)(x:Int):
 Calls Tryz.prog 29 #[u,.string s,.int .i64 x] w fun e w'=>∃ad n cap,e = .returned (.tuple #[.slice ad n cap,.int .i64 (setH L s x),.int .i64 (setE L s x)])∧NewL w w' u (.slice ad n cap) (setL L s x):=by
 obtain⟨ad,cap,rfl⟩:=h.form;have hlen:=(zAm hb).2.2;have hsm:Sm L:=fun y hy=>by
  obtain⟨_,_,_,_,hs96,_⟩:=zAw (x:=y) ((zAm hb).1 y hy).1;omega
 have HWD:Hid (∀W,Below w.heap.size w W→Calls Tryz.prog 42 #[.string s] W fun e w'=>e = .returned (.bool (zAo s.data.toList))∧Below W.heap.size W w'):=fun W _=>zDw s W hs
 have HFD:Hid (∀W,Below w.heap.size w W→Calls Tryz.prog 21 #[.slice ad L.length cap,.string s] W fun e w'=>e = .returned (.tuple #[.int .i64 ((Pm.find L s).getD 0),.bool (Pm.find L s).isSome])∧w'=W):=fun W hW=>zHv W _ L s (h.below hW) (by omega)
 have HPT:Hid (∀W,Below w.heap.size w W→Calls Tryz.prog 31 #[.slice ad L.length cap,.agg #[.string s,.int .i64 x]] W fun e w'=>∃a n c,e = .returned (.slice a n c)∧NewL w w' (.slice ad L.length cap) (.slice a n c) (put zAa L (s,x))):=fun W hW=>(zR6 W _ L (s,x) (h.below hW) (by omega) hsm hs).mono (by
  rintro e w' ⟨v',rfl,ho,hb'⟩;obtain⟨a,c,hv⟩:=ho.shape;subst hv;exact⟨a,_,c,rfl,ho.row,.inr fun k e=>Nat.le_trans hW.size (zA2 ho e).1,hW.trans (hb'.mono hW.size)⟩)
 have HSM:Hid (∀w',Below w.heap.size w w'→NewL w w' (.slice ad L.length cap) (.slice ad L.length cap) L):=fun w' hb'=>NewL.same h hb'
 obtain⟨n,hn⟩:∃n,L.length=n:=⟨_,rfl⟩;rw[hn]at HFD HPT HSM hlen;rw[hn];clear h hsm hb hs;cases hw:zAo s.data.toList with
 |false=>
  have hE:setE L s x=140:=by unfold setE;rw[if_pos hw]
  have hH:setH L s x=0:=by unfold setH;rw[hE];rfl
  have hLL:setL L s x=L:=by unfold setL;rw[hE];rfl
  rw[hE,hH,hLL];rw[hw]at HWD;obtain⟨fx,hfx⟩:∃fx,(Pm.find L s).getD 0=fx:=⟨_,rfl⟩;obtain⟨fb,hfb⟩:∃fb,(Pm.find L s).isSome=fb:=⟨_,rfl⟩;rw[hfx,hfb]at HFD;clear hE hH hLL hw hfx hfb hn;go_enter Tryz.func29,Tryz.ntmps29
  go_wp2_with (first
   |(go_at_call 42;refine(HWD.out _ (Below.refl _ _)).mono ?_;rintro e w1 ⟨rfl,hb1⟩;have HB1:Hid (Below w.heap.size w w1):=hb1;clear hb1)
   |(go_at_call 21;refine(HFD.out _ HB1.out).mono ?_;rintro e w2 ⟨rfl,hw2⟩;rw[hw2];clear hw2))
  go_returns;exact⟨ad,n,cap,rfl,HSM.out _ HB1.out⟩
 |true=>
  rw[hw]at HWD;by_cases hx:x<1∨1048576<x
  · have hE:setE L s x=141:=by unfold setE;rw[if_neg (by rw[hw];decide),if_pos hx]
    (have hH:setH L s x=0:=by unfold setH;rw[hE];rfl);(have hLL:setL L s x=L:=by unfold setL;rw[hE];rfl);rw[hE,hH,hLL];obtain⟨fx,hfx⟩:∃fx,(Pm.find L s).getD 0=fx:=⟨_,rfl⟩;obtain⟨fb,hfb⟩:∃fb,(Pm.find L s).isSome=fb:=⟨_,rfl⟩;rw[hfx,hfb]at HFD;clear hE hH hLL hw hfx hfb hn;by_cases hx1:x<1
    · clear hx
      go_enter Tryz.func29,Tryz.ntmps29
      go_wp2_with (first
       |(go_at_call 42;refine(HWD.out _ (Below.refl _ _)).mono ?_;rintro e w1 ⟨rfl,hb1⟩;have HB1:Hid (Below w.heap.size w w1):=hb1;clear hb1)
       |(go_at_call 21;refine(HFD.out _ HB1.out).mono ?_;rintro e w2 ⟨rfl,hw2⟩;rw[hw2];clear hw2))
      go_returns;exact⟨ad,n,cap,rfl,HSM.out _ HB1.out⟩
    · have hx2:1048576<x:=by omega
      clear hx;go_enter Tryz.func29,Tryz.ntmps29
      go_wp2_with (first
       |(go_at_call 42;refine(HWD.out _ (Below.refl _ _)).mono ?_;rintro e w1 ⟨rfl,hb1⟩;have HB1:Hid (Below w.heap.size w w1):=hb1;clear hb1)
       |(go_at_call 21;refine(HFD.out _ HB1.out).mono ?_;rintro e w2 ⟨rfl,hw2⟩;rw[hw2];clear hw2))
      go_returns;exact⟨ad,n,cap,rfl,HSM.out _ HB1.out⟩
  · have hx1:¬x<1:=by omega
    (have hx2:¬1048576<x:=by omega);cases hfd:Pm.find L s with
    |some y=>
     (have hE:setE L s x=0:=by unfold setE;rw[if_neg (by rw[hw];decide),if_neg hx,if_neg (by rw[hfd];simp)]);(have hH:setH L s x=y:=by unfold setH;rw[if_pos hE,hfd];rfl);(have hLL:setL L s x=put zAa L (s,x):=by unfold setL;rw[if_pos hE]);rw[hE,hH,hLL];rw[hfd]at HFD;simp only[Option.getD_some,Option.isSome_some]at HFD;clear hE hH hLL hw hfd hx hn;go_enter Tryz.func29,Tryz.ntmps29
     go_wp2_with (first
      |(go_at_call 42;refine(HWD.out _ (Below.refl _ _)).mono ?_;rintro e w1 ⟨rfl,hb1⟩;have HB1:Hid (Below w.heap.size w w1):=hb1;clear hb1)
      |(go_at_call 21;refine(HFD.out _ HB1.out).mono ?_;rintro e w2 ⟨rfl,hw2⟩;rw[hw2];clear hw2)
      |(go_at_call 31;refine(HPT.out _ HB1.out).mono ?_;rintro e w3 ⟨a3,n3,c3,rfl,h3⟩;have H3:Hid _:=h3;clear h3))
     go_returns;exact⟨a3,n3,c3,rfl,H3.out⟩
    |none=>
     rw[hfd]at HFD;simp only[Option.getD_none,Option.isSome_none]at HFD;by_cases hfull:4096≤n
     · have hE:setE L s x=142:=by unfold setE;rw[if_neg (by rw[hw];decide),if_neg hx,if_pos ⟨by rw[hfd];rfl,by omega⟩]
       (have hH:setH L s x=0:=by unfold setH;rw[hE];rfl);(have hLL:setL L s x=L:=by unfold setL;rw[hE];rfl);rw[hE,hH,hLL];(have hfz:(4096:Int)≤(n:Int):=by omega);clear hE hH hLL hw hfd hx hn;go_enter Tryz.func29,Tryz.ntmps29
       go_wp2_with (first
        |(go_at_call 42;refine(HWD.out _ (Below.refl _ _)).mono ?_;rintro e w1 ⟨rfl,hb1⟩;have HB1:Hid (Below w.heap.size w w1):=hb1;clear hb1)
        |(go_at_call 21;refine(HFD.out _ HB1.out).mono ?_;rintro e w2 ⟨rfl,hw2⟩;rw[hw2];clear hw2))
       go_returns;exact⟨ad,n,cap,rfl,HSM.out _ HB1.out⟩
     · have hE:setE L s x=0:=by unfold setE;rw[if_neg (by rw[hw];decide),if_neg hx,if_neg (by rw[hn];omega)]
       (have hH:setH L s x=0:=by unfold setH;rw[if_pos hE,hfd];rfl);(have hLL:setL L s x=put zAa L (s,x):=by unfold setL;rw[if_pos hE]);rw[hE,hH,hLL];(have hfz:¬(4096:Int)≤(n:Int):=by omega);clear hE hH hLL hw hfd hx hn;go_enter Tryz.func29,Tryz.ntmps29
       go_wp2_with (first
        |(go_at_call 42;refine(HWD.out _ (Below.refl _ _)).mono ?_;rintro e w1 ⟨rfl,hb1⟩;have HB1:Hid (Below w.heap.size w w1):=hb1;clear hb1)
        |(go_at_call 21;refine(HFD.out _ HB1.out).mono ?_;rintro e w2 ⟨rfl,hw2⟩;rw[hw2];clear hw2)
        |(go_at_call 31;refine(HPT.out _ HB1.out).mono ?_;rintro e w3 ⟨a3,n3,c3,rfl,h3⟩;have H3:Hid _:=h3;clear h3))
       go_returns;exact⟨a3,n3,c3,rfl,H3.out⟩
theorem out_snoc{L:List Pr}{j:Nat}{p:Pr}(hp:L[j]?=some p)(s:ByteArray):out s (L.take (j+1))=out s (L.take j)++(if p.1=s then []else [p]):=by
 obtain⟨hj,e⟩:=List.getElem?_eq_some_iff.1 hp;rw[List.take_succ_eq_append_getElem hj,e];unfold out;rw[List.filter_append];by_cases h:p.1=s<;>simp[h]
theorem zKw(w:World)(u:Value)(L:List Pr)(h:PRow w u L)(hb:zAj L=0)(s:ByteArray)(hs:s.size≤9223372036854775807):
 Calls Tryz.prog 30 #[u,.string s] w fun e w'=>∃ad n cap,e = .returned (.tuple #[.slice ad n cap,.int .i64 (remH L s),.int .i64 (remE L s)])∧NewL w w' u (.slice ad n cap) (remL L s):=by
 obtain⟨ad,cap,rfl⟩:=h.form;have hlen:=(zAm hb).2.2;have HWD:Hid (∀W,Below w.heap.size w W→Calls Tryz.prog 42 #[.string s] W fun e w'=>e = .returned (.bool (zAo s.data.toList))∧Below W.heap.size W w'):=fun W _=>zDw s W hs
 have HFD:Hid (∀W,Below w.heap.size w W→Calls Tryz.prog 21 #[.slice ad L.length cap,.string s] W fun e w'=>e = .returned (.tuple #[.int .i64 ((Pm.find L s).getD 0),.bool (Pm.find L s).isSome])∧w'=W):=fun W hW=>zHv W _ L s (h.below hW) (by omega)
 have HSM:Hid (∀w',Below w.heap.size w w'→NewL w w' (.slice ad L.length cap) (.slice ad L.length cap) L):=fun w' hb'=>NewL.same h hb'
 obtain⟨n,hn⟩:∃n,L.length=n:=⟨_,rfl⟩;rw[hn]at HFD HSM hlen;have HR:Hid (PRow w (.slice ad n cap) L):=by have:=h;rw[hn]at this;exact this
 have HN:Hid (L.length=n):=hn;rw[hn];clear h hb hs hn;cases hw:zAo s.data.toList with
 |false=>
  have hE:remE L s=140:=by unfold remE;rw[if_pos hw]
  have hH:remH L s=0:=by unfold remH;rw[hE];rfl
  have hLL:remL L s=L:=by unfold remL;rw[hE];rfl
  rw[hE,hH,hLL];rw[hw]at HWD;obtain⟨fx,hfx⟩:∃fx,(Pm.find L s).getD 0=fx:=⟨_,rfl⟩;obtain⟨fb,hfb⟩:∃fb,(Pm.find L s).isSome=fb:=⟨_,rfl⟩;rw[hfx,hfb]at HFD;clear hE hH hLL hw hfx hfb;go_enter Tryz.func30,Tryz.ntmps30
  go_wp2_with (first
   |(go_at_call 42;refine(HWD.out _ (Below.refl _ _)).mono ?_;rintro e w1 ⟨rfl,hb1⟩;have HB1:Hid (Below w.heap.size w w1):=hb1;clear hb1)
   |(go_at_call 21;refine(HFD.out _ HB1.out).mono ?_;rintro e w2 ⟨rfl,hw2⟩;rw[hw2];clear hw2))
  go_returns;exact⟨ad,n,cap,rfl,HSM.out _ HB1.out⟩
 |true=>
  rw[hw]at HWD;cases hfd:Pm.find L s with
  |none=>
   (have hE:remE L s=143:=by unfold remE;rw[if_neg (by rw[hw];decide),if_pos (by rw[hfd];rfl)]);(have hH:remH L s=0:=by unfold remH;rw[hE];rfl);(have hLL:remL L s=L:=by unfold remL;rw[hE];rfl);rw[hE,hH,hLL];rw[hfd]at HFD;simp only[Option.getD_none,Option.isSome_none]at HFD;clear hE hH hLL hw hfd;go_enter Tryz.func30,Tryz.ntmps30
   go_wp2_with (first
    |(go_at_call 42;refine(HWD.out _ (Below.refl _ _)).mono ?_;rintro e w1 ⟨rfl,hb1⟩;have HB1:Hid (Below w.heap.size w w1):=hb1;clear hb1)
    |(go_at_call 21;refine(HFD.out _ HB1.out).mono ?_;rintro e w2 ⟨rfl,hw2⟩;rw[hw2];clear hw2))
   go_returns;exact⟨ad,n,cap,rfl,HSM.out _ HB1.out⟩
  |some y=>
   (have hE:remE L s=0:=by unfold remE;rw[if_neg (by rw[hw];decide),if_neg (by rw[hfd];simp)]);(have hH:remH L s=y:=by unfold remH;rw[if_pos hE,hfd];rfl);(have hLL:remL L s=out s L:=by unfold remL;rw[if_pos hE]);rw[hE,hH,hLL];rw[hfd]at HFD;simp only[Option.getD_some,Option.isSome_some]at HFD;clear hE hH hLL hw hfd;go_enter Tryz.func30,Tryz.ntmps30
   go_wp2_with (first
    |(go_at_call 42;refine(HWD.out _ (Below.refl _ _)).mono ?_;rintro e w1 ⟨rfl,hb1⟩;have HB1:Hid (Below w.heap.size w w1):=hb1;clear hb1)
    |(go_at_call 21;refine(HFD.out _ HB1.out).mono ?_;rintro e w2 ⟨rfl,hw2⟩;rw[hw2];clear hw2))
   go_loopg [10,11] n (fun gm s10 s11 wr=>∃(j:Nat),s11 = .int .i64 j∧j≤n∧n-j≤gm∧Hid (POwn w.heap.size wr s10 (out s (L.take j)))∧Hid (Below w.heap.size w wr))
   case atStart=>exact⟨0,rfl,Nat.zero_le _,by omega,POwn.nil _ _,HB1⟩
   case round=>
    obtain⟨j,rfl,hj,hgm,HO,HB⟩:=hrel;obtain⟨od,oc,hso⟩:=HO.out.shape;obtain⟨on,hon⟩:∃on,(out s (L.take j)).length=on:=⟨_,rfl⟩;have hol:on≤4096:=by
     rw[←hon];exact Nat.le_trans (zJm _ _) (Nat.le_trans (List.length_take_le _ _) (by omega))
    rw[hon]at hso;subst hso;by_cases hlt:j<n
    · have hltz:(j:Int)<(n:Int):=by omega
      obtain⟨p,hp⟩:∃p,L[j]?=some p:=⟨L[j]'(by have:=HN.out;omega),List.getElem?_eq_getElem _⟩;obtain⟨g,off,hgo,hg,hcell⟩:=HR.out.at (by omega);subst hgo;obtain⟨x0,x1⟩:=(hcell j p hp).below hg HB.out;have HST:Hid (out s (L.take (j+1))=out s (L.take j)++(if p.1=s then []else [p])):=out_snoc hp s;(have HOL:Hid ((out s (L.take j)).length≤4096):=by show _≤_;rw[hon];exact hol);clear hcell hp hg hon;by_cases hps:p.1=s
      · have hse:(p.1.toList==s.toList)=true:=by rw[zFc];exact decide_eq_true hps
        (have HST:Hid (out s (L.take (j+1))=out s (L.take j)):=by have:=HST.out;rw[if_pos hps,List.append_nil]at this;exact this);clear hps;go_wp2;go_roundg (n-(j+1));(case measure=>omega);case rel=>exact⟨j+1,by go_num,by omega,Nat.le_refl _,by show POwn _ _ _ _;rw[HST.out];exact HO.out,HB⟩
      · have hse:(p.1.toList==s.toList)=false:=by rw[zFc];exact decide_eq_false hps
        (have HST:Hid (out s (L.take (j+1))=out s (L.take j)++[p]):=by have:=HST.out;rw[if_neg hps]at this;exact this);clear hps;go_wp2_with (at_builtin;refine zCw rfl _ _ p _ rfl w.heap.size _ _ _ (out s (L.take j)) rfl HO.out rfl rfl (by have:=HOL.out;omega) HB.out.size ?_;intro v5 w5 ho5 hb5;have HO5:Hid (POwn w.heap.size w5 v5 (out s (L.take (j+1)))):=(by show POwn _ _ _ _;rw[HST.out];exact ho5);have HB5:Hid (Below w.heap.size w w5):=HB.out.trans hb5;clear ho5 hb5);go_roundg (n-(j+1));(case measure=>omega);case rel=>exact⟨j+1,by go_num,by omega,Nat.le_refl _,HO5,HB5⟩
    · have hltz:¬(j:Int)<(n:Int):=by omega
      (have HE:Hid (out s (L.take j)=out s L):=by show _=_;rw[List.take_of_length_le (by have:=HN.out;omega)]);clear hon;go_wp2;go_returns;exact⟨od,on,oc,rfl,by have:=HO.out;rw[HE.out]at this;exact NewL.own this HB.out⟩
theorem near_mem{xs:List Int}{d:Nat}{l:List Pr}{m:Mt}(h:m∈zBe xs d l):∃p∈l,m.1=p.1:=by
 obtain⟨p,hp,e⟩:=List.mem_filterMap.1 h;refine⟨p,hp,?_⟩
 split at e
 · rw[←Option.some.inj e]
 · cases e
theorem zIz(w:World)(u:Value)(L:List Pr)(h:PRow w u L)(hb:zAj L=0)(q:Mt)(hq:q.1.size≤9223372036854775807):
 Calls Tryz.prog 23 #[u,.agg #[.string q.1,.int .i64 q.2.1,.int .i64 q.2.2]] w fun e w'=>∃ad n cap,e = .returned (.tuple #[.slice ad n cap,.int .i64 (allC q.1.data.toList q.2.1)])∧MRow w' (.slice ad n cap) (sugL L q)∧Below w.heap.size w w':=by
 obtain⟨ad,cap,rfl⟩:=h.form;have hlen:=(zAm hb).2.2;have hal:=zHj L q.1.data.toList q.2.1;have hsmA:∀m∈allL L q.1.data.toList q.2.1,Bt.SmM m:=fun m hm=>by
  unfold allL at hm
  split at hm
  · obtain⟨p,hp,e⟩:∃p∈L,m.1=p.1:=near_mem hm
    obtain⟨_,_,_,_,hs96,_⟩:=zAw (x:=p) ((zAm hb).1 p hp).1;show m.1.size≤_;rw[e];omega
  · cases hm
 have HALL:Hid (∀W,Below w.heap.size w W→Calls Tryz.prog 49 #[.slice ad L.length cap,.string q.1,.int .i64 q.2.1] W fun x w'=>∃ad2 cap2,x = .returned (.tuple #[.slice ad2 (allL L q.1.data.toList q.2.1).length cap2,.int .i64 (allC q.1.data.toList q.2.1)])∧MRow w' (.slice ad2 (allL L q.1.data.toList q.2.1).length cap2) (allL L q.1.data.toList q.2.1)∧Below W.heap.size W w'):=fun W hW=>zOj W _ L (h.below hW) hb q.1 q.2.1 hq
 have HB:Hid (∀W a,MRow W a (allL L q.1.data.toList q.2.1)→Calls Tryz.prog 50 #[a,.int .i64 q.2.2] W fun e w'=>∃ad n cap,e = .returned (.slice ad n cap)∧MRow w' (.slice ad n cap) (sugL L q)∧Below W.heap.size W w'):=fun W a hm=>(Bt.refBest_any W a _ q.2.2 hm hsmA (by omega)).mono (by
  rintro e w' ⟨vl,rfl,ho,hb2⟩;obtain⟨ad,n,cap,rfl,hrow,_⟩:=zRh ho;exact⟨ad,n,cap,rfl,hrow,hb2⟩)
 obtain⟨A,hA⟩:∃A,allL L q.1.data.toList q.2.1=A:=⟨_,rfl⟩;obtain⟨n1,hn1⟩:∃n1,A.length=n1:=⟨_,rfl⟩;have HS0:Hid (allC q.1.data.toList q.2.1≠0→sugL L q=[]):=fun hc=>by
  unfold sugL allL;unfold allC at hc
  split at hc
  · exact absurd rfl hc
  · rename_i hr;rw[if_neg hr];rfl
 rw[hA,hn1]at HALL;rw[hA]at HB;obtain⟨C,hC⟩:∃C,allC q.1.data.toList q.2.1=C:=⟨_,rfl⟩;rw[hC]at HALL HS0 ⊢;obtain⟨R,hR⟩:∃R,sugL L q=R:=⟨_,rfl⟩;rw[hR]at HB HS0 ⊢;generalize L.length=n at *;clear h hb hq hlen hal hsmA hA hn1 hC hR;obtain⟨qs,qe,qk⟩:=q;simp only at *;have HB0:Hid (∀o,Below w.heap.size w (w.alloc o)):=fun o=>(Below.refl _ w).alloc (Nat.le_refl _) o
 have HQ:Hid (∀W,Below (w.alloc (.cells #[.string qs,.int .i64 qe,.int .i64 qk] 49)).heap.size (w.alloc (.cells #[.string qs,.int .i64 qe,.int .i64 qk] 49)) W→W.cell? ⟨w.heap.size,2,none⟩=some (.int .i64 qk)):=fun W hW=>by
  have h0:(w.alloc (.cells #[.string qs,.int .i64 qe,.int .i64 qk] 49)).heap[w.heap.size]?=some (.cells #[.string qs,.int .i64 qe,.int .i64 qk] 49):=zAb _ _;have:=(hW.block w.heap.size (by simp)).trans h0;simp[World.cell?,this]
 by_cases hc:C=0
 · subst hc
   clear HS0;go_enter Tryz.func23,Tryz.ntmps23
   go_wp2_with (first
    |(go_at_call 49;refine(HALL.out _ (HB0.out _)).mono ?_;rintro e w1 ⟨a1,c1,rfl,hm1,hb1⟩;have HM1:Hid (MRow w1 (.slice a1 n1 c1) A):=hm1;have hq2:=HQ.out w1 hb1;have HB1:Hid (Below w.heap.size w w1):=(HB0.out _).trans (hb1.mono (HB0.out _).size);clear hm1 hb1)
    |(go_at_call 50;refine(HB.out _ _ HM1.out).mono ?_;rintro e w2 ⟨a2,n2,c2,rfl,hm2,hb2⟩;have H2:Hid (MRow w2 (.slice a2 n2 c2) R∧Below w.heap.size w w2):=⟨hm2,HB1.out.trans (hb2.mono HB1.out.size)⟩;clear hm2 hb2))
   go_ret2;exact⟨a2,n2,c2,rfl,H2.out.1,H2.out.2⟩
 · have hcb:(C==0)=false:=by simpa using hc
   have HR0:Hid (R=[]):=HS0.out hc;clear HS0 hc;go_enter Tryz.func23,Tryz.ntmps23;go_wp2_with (go_at_call 49;refine(HALL.out _ (HB0.out _)).mono ?_;rintro e w1 ⟨a1,c1,rfl,hm1,hb1⟩;have HB1:Hid (Below w.heap.size w w1):=(HB0.out _).trans (hb1.mono (HB0.out _).size);clear hm1 hb1);go_ret2;exact⟨none,0,0,rfl,by rw[HR0.out];exact GOwn.reads (T:=74) (B:=0) (GOwn.nil _ _ _ _),HB1.out⟩
end Di
namespace Di
def ab14:ByteArray:=⟨#[97,98]⟩
theorem zPm:setL [] ab14 5=[(ab14,5)]∧setH [] ab14 5=0∧setE [] ab14 5=0:=by decide +kernel
theorem zPl:setL [(ab14,5)] ab14 2=[(ab14,2)]∧setH [(ab14,5)] ab14 2=5∧setE [(ab14,5)] ab14 2=0:=by decide +kernel
theorem al_sug:sugL [(ab14,2)] (⟨#[97]⟩,1,3)=[(ab14,2,1)]∧allC [97] 1=0:=by
 have h1:Go.Proofs.YtobjpljdgieklaaGreatDoor.rightB [97] 1=true:=by decide +kernel
 have h2:rs [97]=some [97]:=by decide +kernel
 have e1:(zB0 (ab14,2)).1=[97,98]:=by decide +kernel
 have l1:lv [97,98] [97]=1:=lvx 3 _ _ _ (by decide) (by decide +kernel);refine⟨?_,by unfold allC;rw[if_pos h1]⟩;have hA:allL [(ab14,2)] [97] 1=[(ab14,2,1)]:=by
  unfold allL;rw[if_pos h1,h2];simp[zBe,e1,l1]
 unfold sugL;show Bt.bestF (Bt.kk 3) (allL [(ab14,2)] [97] 1)=_;rw[hA];decide +kernel
theorem zPk(w:World)(ht:Tabs w):Calls Tryz.prog 14 #[] w fun e w'=>e = .returned (.bool true)∧Below w.heap.size w w':=by
 have HN:Hid (Calls Tryz.prog 37 #[] w fun e w'=>∃db,e = .returned (.pointer (some ⟨db,0,none⟩))∧LoadSays w.heap.size w w' [] db):=New_dict w.heap.size w (Nat.le_refl _) (TabB.of ht);have HST:Hid (∀W db lo hi wb v base over L x,DictAt w.heap.size W db lo hi wb v base over→over.length≤32→zAc zAa base over=L→Calls Tryz.prog 33 #[.pointer (some ⟨db,0,none⟩),.string ⟨#[97,98]⟩,.int .i64 x] W fun e w'=>e = .returned (.tuple #[.int .i64 (setH L ab14 x),.int .i64 (setE L ab14 x)])∧MutSays w.heap.size W w' db lo hi v (setL L ab14 x)):=fun W db lo hi wb v base over L x hd hf hL=>by
  have:=zXu w.heap.size W db lo hi wb v base over hd hf ab14 (by decide) x;rw[hL]at this;exact this
 have HSG:Hid (∀W db lo hi wb v base over,DictAt w.heap.size W db lo hi wb v base over→zAc zAa base over=[(ab14,2)]→Calls Tryz.prog 22 #[.pointer (some ⟨db,0,none⟩),.agg #[.string ⟨#[97]⟩,.int .i64 1,.int .i64 3]] W fun e w'=>∃g off cap,e = .returned (.tuple #[.slice (some ⟨g,off,none⟩) 1 cap,.int .i64 0])∧(w'.cell? ⟨g,off,none⟩=some (.string ⟨#[97,98]⟩)∧w'.cell? ⟨g,off+1,none⟩=some (.int .i64 2)∧w'.cell? ⟨g,off+2,none⟩=some (.int .i64 1))∧Below W.heap.size W w'):=fun W db lo hi wb v base over hd hL=>(zIr w.heap.size W db lo hi wb v base over hd (⟨#[97]⟩,1,3) (by decide)).mono (by
  rintro e w' ⟨ad,n,cap,rfl,hr,_,hb⟩;rw[hL,al_sug.1]at hr;obtain⟨ad',cap',hv⟩:=hr.form;simp only[Value.slice.injEq,List.length_singleton]at hv;obtain⟨rfl,rfl,rfl⟩:=hv;obtain⟨g,off,rfl,hg,hc⟩:=hr.at (by simp);obtain⟨c0,c1,c2⟩:=hc 0 (ab14,2,1) rfl;simp only[Nat.zero_mul,Nat.add_zero]at c0 c1 c2;refine⟨g,off,cap,?_,⟨c0,c1,c2⟩,hb⟩;have:allC (⟨#[97]⟩:ByteArray).data.toList 1=0:=al_sug.2;rw[this])
 have s1:(({ data:=#[97,98] }:ByteArray).toList==({ data:=#[97,98] }:ByteArray).toList)=true:=by simp
 clear ht;go_enter Tryz.func14,Tryz.ntmps14;go_upto_region 4 with(go_at_call 37;refine HN.out.mono ?_;rintro e w1 ⟨db,rfl,hls⟩;have HLS:Hid (LoadSays w.heap.size w w1 [] db):=hls;clear hls)
 obtain⟨lo1,hi1,wb1,hd1,_⟩:=HLS.out.ex;have HD1:Hid (DictAt w.heap.size w1 db lo1 hi1 wb1 (.slice none 0 0) [] []):=hd1;clear hd1;go_upto_region 5 with(go_at_call 33;refine(HST.out _ _ _ _ _ _ _ _ [] _ HD1.out (by simp) rfl).mono ?_;rintro e w2 ⟨rfl,hm2⟩;rw[zPm.2.1,zPm.2.2];rw[zPm.1]at hm2;have HM2:Hid (MutSays w.heap.size w1 w2 db lo1 hi1 (.slice none 0 0) [(ab14,5)]):=hm2;clear hm2)
 obtain⟨lo2,hi2,wb2,v2,b2,o2,hd2,hf2,hL2,_,_⟩:=HM2.out.ex;have HD2:Hid (DictAt w.heap.size w2 db lo2 hi2 wb2 v2 b2 o2∧o2.length≤32∧zAc zAa b2 o2=[(ab14,5)]):=⟨hd2,hf2,hL2⟩;clear hd2 hf2 hL2;go_upto_region 6 with(go_at_call 33;refine(HST.out _ _ _ _ _ _ _ _ [(ab14,5)] _ HD2.out.1 HD2.out.2.1 HD2.out.2.2).mono ?_;rintro e w3 ⟨rfl,hm3⟩;rw[zPl.2.1,zPl.2.2];rw[zPl.1]at hm3;have HM3:Hid (MutSays w.heap.size w2 w3 db lo2 hi2 v2 [(ab14,2)]):=hm3;clear hm3)
 obtain⟨lo3,hi3,wb3,v3,b3,o3,hd3,_,hL3,_,_⟩:=HM3.out.ex;have HD3:Hid (DictAt w.heap.size w3 db lo3 hi3 wb3 v3 b3 o3∧zAc zAa b3 o3=[(ab14,2)]):=⟨hd3,hL3⟩;have HB3:Hid (Below w.heap.size w w3):=by
  have h2:=HM2.out.upd.below HD1.out.size (fun k g=>(HD1.out.fp k g).1);have h3:=HM3.out.upd.below HD2.out.1.size (fun k g=>(HD2.out.1.fp k g).1);exact HLS.out.bel.trans (h2.trans h3)
 clear hd3 hL3;go_wp2_with (go_at_call 22;refine(HSG.out _ _ _ _ _ _ _ _ HD3.out.1 HD3.out.2).mono ?_;rintro e w4 ⟨g,off,cap,rfl,⟨c0,c1,c2⟩,hb4⟩;have HB4:Hid (Below w.heap.size w w4):=HB3.out.trans (hb4.mono HB3.out.size);clear hb4);go_ret;exact⟨by first|rfl|simp,HB4.out⟩
end Di
namespace Di
abbrev Oo:=Int×ByteArray×Int
def opV(o:Oo):Value := .agg #[.int .i64 o.1,.string o.2.1,.int .i64 o.2.2]
def stepL(L:List Pr)(o:Oo):List Pr:=if o.1=0 then setL L o.2.1 o.2.2 else if o.1=1 then remL L o.2.1 else L
def Ap(db:Nat)(v u:Value)(L:List Pr):Prop:=0<L.length→∀k,u.ownBlock=some k→¬fpD db v k
theorem prow_upd{F:Nat→Prop}{w w':World}{u:Value}{L:List Pr}(h:PRow w u L)(hu:Upd F w w')(ha:0<L.length→∀k,u.ownBlock=some k→¬F k):PRow w' u L:=by
 obtain⟨ad,cap,rfl,hc⟩:=h;refine⟨ad,cap,rfl,fun h0=>?_⟩;obtain⟨g,off,rfl,hg,hx⟩:=hc h0;have e:=hu.block g hg (ha h0 g rfl);refine⟨g,off,rfl,Nat.lt_of_lt_of_le hg hu.size,fun i x hi=>⟨(World.cell?_of_block (a:=⟨g,off+i*2,none⟩) e).trans (hx i x hi).c0,(World.cell?_of_block (a:=⟨g,off+i*2+1,none⟩) e).trans (hx i x hi).c1⟩⟩
theorem zUl{w:World}{u:Value}{L:List Pr}(h:PRow w u L)(h0:0<L.length){k:Nat}(hk:u.ownBlock=some k):k<w.heap.size:=by
 obtain⟨ad,cap,rfl,hc⟩:=h;obtain⟨g,off,rfl,hg,_⟩:=hc h0;cases hk;exact hg
theorem prow_len{w w':World}{u:Value}{L L':List Pr}(h:PRow w u L)(h':PRow w' u L'):L.length=L'.length:=by
 obtain⟨ad,cap,e,_⟩:=h;obtain⟨ad',cap',e',_⟩:=h';rw[e]at e';simp only[Value.slice.injEq]at e';exact e'.2.1
structure DoSays(B:Nat)(w w':World)(db lo hi:Nat)(v u u':Value)(L':List Pr):Prop where
 ex:∃lo' hi' wb' v' base' over',DictAt B w' db lo' hi' wb' v' base' over'∧over'.length≤32∧zAc zAa base' over'=L'∧(v'=v∨∀k,v'.ownBlock=some k→w.heap.size≤k)∧((lo'=lo∧hi'=hi)∨w.heap.size≤lo')∧Ap db v' u' L'
 upd:Upd (fpD db v) w w'
 row:PRow w' u' L'
 new:u'=u∨∀k,u'.ownBlock=some k→w.heap.size≤k
theorem do_of{B:Nat}{w w1 w2:World}{db lo hi:Nat}{v u u':Value}{base over L':List Pr}(hm:MutSays B w w1 db lo hi v L')(hr:PRow w u (zAc zAa base over))(ha:Ap db v u (zAc zAa base over))(hn:NewL w1 w2 u u' L'):DoSays B w w2 db lo hi v u u' L':=by
 obtain⟨lo',hi',wb',v',b',o',k1,k2,k3,k4,k5⟩:=hm.ex;have h1:=k1.below hn.bel;have hs:=hm.upd.size;refine⟨⟨lo',hi',wb',v',b',o',h1,k2,k3,k4,k5,fun h0 k hk hf=>?_⟩,hm.upd.trans (G:=fun _=>False) (Upd.of_below hn.bel) (fun _ _ g=>g.elim),hn.row,hn.new.imp id (fun g k e=>Nat.le_trans hs (g k e))⟩;rcases hn.new with e|e
 · subst e
   (have h0':0<(zAc zAa base over).length:=by rw[prow_len hr hn.row];exact h0);have hlt:=zUl hr h0' hk;rcases hf with hf|hf
   · exact ha h0' k hk (.inl hf)
   · rcases k4 with k4|k4
     · exact ha h0' k hk (.inr (k4▸hf))
     · have:=k4 k hf;omega
 · have h3:=e k hk
   have:=k1.fp k hf;omega
theorem DoSays.from{B:Nat}{w W w':World}{db lo hi:Nat}{v u u':Value}{L':List Pr}(hb:Below w.heap.size w W)(h:DoSays B W w' db lo hi v u u' L'):DoSays B w w' db lo hi v u u' L':=by
 obtain⟨lo',hi',wb',v',b',o',k1,k2,k3,k4,k5,k6⟩:=h.ex;exact⟨⟨lo',hi',wb',v',b',o',k1,k2,k3,k4.imp id (fun g k e=>Nat.le_trans hb.size (g k e)),k5.imp id (Nat.le_trans hb.size),k6⟩,(Upd.of_below hb).trans h.upd (fun _ _ g=>g),h.row,h.new.imp id (fun g k e=>Nat.le_trans hb.size (g k e))⟩
theorem does_any(B:Nat)(w:World)(db lo hi wb:Nat)(v u:Value)(base over:List Pr)(h:DictAt B w db lo hi wb v base over)(hf:over.length≤32)(hr:PRow w u (zAc zAa base over))(ha:Ap db v u (zAc zAa base over))(o:Oo)(ho:o.2.1.size≤9223372036854775807):
 Calls Tryz.prog 15 #[.pointer (some ⟨db,0,none⟩),u,opV o] w fun e w'=>∃ad n cap,e = .returned (.tuple #[.slice ad n cap,.bool true])∧DoSays B w w' db lo hi v u (.slice ad n cap) (stepL (zAc zAa base over) o):=by
 obtain⟨ad,cap,hu⟩:=hr.form;obtain⟨W0,hW0⟩:∃W0,W0=w.alloc (.cells #[.int .i64 o.1,.string o.2.1,.int .i64 o.2.2] 29):=⟨_,rfl⟩;obtain⟨ob,hob⟩:∃ob,ob=w.heap.size:=⟨_,rfl⟩;have hb0:Below w.heap.size w W0:=by rw[hW0];exact(Below.refl _ w).alloc (Nat.le_refl _) _
 have hn0:W0.heap[ob]?=some (.cells #[.int .i64 o.1,.string o.2.1,.int .i64 o.2.2] 29):=by rw[hW0,hob];exact zAb _ _
 have h0:=h.below hb0;have hr0:=hr.below hb0;have hall:=h.ok.all;have HCO:Hid (∀W,Upd (fpD db v) W0 W→W.cell? ⟨ob,0,none⟩=some (.int .i64 o.1)∧W.cell? ⟨ob,1,none⟩=some (.string o.2.1)∧W.cell? ⟨ob,2,none⟩=some (.int .i64 o.2.2)):=fun W hW=>by
  have hne:¬fpD db v ob:=fun e=>by have:=(h.fp ob e).2;omega
  have:=(hW.block ob (Array.getElem?_eq_some_iff.1 hn0).1 hne).trans hn0;exact⟨by simp[World.cell?,this],by simp[World.cell?,this],by simp[World.cell?,this]⟩
 obtain⟨k0,k1,k2⟩:=HCO.out W0 (Upd.refl _ _);have HDO:Hid (∀w1 w2 u' L',MutSays B W0 w1 db lo hi v L'→NewL w1 w2 u u' L'→DoSays B w w2 db lo hi v u u' L'):=fun w1 w2 u' L' hm hn=>(do_of hm hr0 ha hn).from hb0
 have HRW:Hid (∀W,Upd (fpD db v) W0 W→PRow W u (zAc zAa base over)):=fun W hW=>prow_upd hr0 hW ha
 obtain⟨ok,os,on⟩:=o;unfold opV;simp only at *;by_cases c0:ok=0
 · subst c0
   (have e1:stepL (zAc zAa base over) (0,os,on)=setL (zAc zAa base over) os on:=by unfold stepL;rw[if_pos rfl]);rw[e1];have HS:Hid (Calls Tryz.prog 33 #[.pointer (some ⟨db,0,none⟩),.string os,.int .i64 on] W0 fun e w'=>e = .returned (.tuple #[.int .i64 (setH (zAc zAa base over) os on),.int .i64 (setE (zAc zAa base over) os on)])∧MutSays B W0 w' db lo hi v (setL (zAc zAa base over) os on)):=zXu B W0 db lo hi wb v base over h0 hf os ho on;(have HRS:Hid (∀W,PRow W u (zAc zAa base over)→Calls Tryz.prog 29 #[u,.string os,.int .i64 on] W fun e w'=>∃ad n cap,e = .returned (.tuple #[.slice ad n cap,.int .i64 (setH (zAc zAa base over) os on),.int .i64 (setE (zAc zAa base over) os on)])∧NewL W w' u (.slice ad n cap) (setL (zAc zAa base over) os on)):=fun W hW=>zR5 W u _ hW hall os ho on);subst hu;generalize setH (zAc zAa base over) os on=rh at *;generalize setE (zAc zAa base over) os on=re at *;generalize (zAc zAa base over).length=n at *;(have q1:(rh==rh)=true:=by simp);(have q2:(re==re)=true:=by simp);clear h hf hr ha ho hb0 hn0 h0 hr0 hall e1;go_enter Tryz.func15,Tryz.ntmps15;(go_upto_region 1 with fail);rw[←hob,←hW0];clear hW0 hob
   go_wp2_with (first
    |(go_at_call 33;refine HS.out.mono ?_;rintro e w1 ⟨rfl,hm1⟩;obtain⟨y0,y1,y2⟩:=HCO.out w1 hm1.upd;have HR1:=HRW.out w1 hm1.upd;have HR1':Hid _:=HR1;have HM1:Hid (MutSays B W0 w1 db lo hi v (setL (zAc zAa base over) os on)):=hm1;clear hm1 HR1 k0 k1 k2)
    |(go_at_call 29;refine(HRS.out _ HR1'.out).mono ?_;rintro e w2 ⟨a2,n2,c2,rfl,hnl⟩;have HF:=HDO.out _ _ _ _ HM1.out hnl;have HFF:Hid _:=HF;clear HF hnl))
   go_ret2;exact⟨a2,n2,c2,by first|rfl|simp,HFF.out⟩
 · by_cases c1:ok=1
   · subst c1
     (have e1:stepL (zAc zAa base over) (1,os,on)=remL (zAc zAa base over) os:=by unfold stepL;rw[if_neg (by show ¬(1:Int)=0;decide),if_pos rfl]);rw[e1];have HS:Hid (Calls Tryz.prog 34 #[.pointer (some ⟨db,0,none⟩),.string os] W0 fun e w'=>e = .returned (.tuple #[.int .i64 (remH (zAc zAa base over) os),.int .i64 (remE (zAc zAa base over) os)])∧MutSays B W0 w' db lo hi v (remL (zAc zAa base over) os)):=zTa B W0 db lo hi wb v base over h0 hf os ho;(have HRS:Hid (∀W,PRow W u (zAc zAa base over)→Calls Tryz.prog 30 #[u,.string os] W fun e w'=>∃ad n cap,e = .returned (.tuple #[.slice ad n cap,.int .i64 (remH (zAc zAa base over) os),.int .i64 (remE (zAc zAa base over) os)])∧NewL W w' u (.slice ad n cap) (remL (zAc zAa base over) os)):=fun W hW=>zKw W u _ hW hall os ho);subst hu;generalize remH (zAc zAa base over) os=rh at *;generalize remE (zAc zAa base over) os=re at *;generalize (zAc zAa base over).length=n at *;(have q1:(rh==rh)=true:=by simp);(have q2:(re==re)=true:=by simp);clear h hf hr ha ho hb0 hn0 h0 hr0 hall e1 c0;go_enter Tryz.func15,Tryz.ntmps15;(go_upto_region 1 with fail);rw[←hob,←hW0];clear hW0 hob
     go_wp2_with (first
      |(go_at_call 34;refine HS.out.mono ?_;rintro e w1 ⟨rfl,hm1⟩;obtain⟨y0,y1,y2⟩:=HCO.out w1 hm1.upd;have HR1:=HRW.out w1 hm1.upd;have HR1':Hid _:=HR1;have HM1:Hid (MutSays B W0 w1 db lo hi v (remL (zAc zAa base over) os)):=hm1;clear hm1 HR1 k0 k1 k2)
      |(go_at_call 30;refine(HRS.out _ HR1'.out).mono ?_;rintro e w2 ⟨a2,n2,c2,rfl,hnl⟩;have HF:=HDO.out _ _ _ _ HM1.out hnl;have HFF:Hid _:=HF;clear HF hnl))
     go_ret2;exact⟨a2,n2,c2,by first|rfl|simp,HFF.out⟩
   · have e1:stepL (zAc zAa base over) (ok,os,on)=zAc zAa base over:=by unfold stepL;rw[if_neg c0,if_neg c1]
     rw[e1];(have b0:(ok==0)=false:=by simpa using c0);(have b1:(ok==1)=false:=by simpa using c1);have HSAME:Hid (DoSays B w W0 db lo hi v u u (zAc zAa base over)):=HDO.out W0 W0 u _ (MutSays.same h0 hf (Below.refl _ _)) (NewL.same hr0 (Below.refl _ _));by_cases c2:ok=2
     · subst c2
       have HC:Hid (Calls Tryz.prog 25 #[.pointer (some ⟨db,0,none⟩)] W0 fun e w'=>e = .returned (.tuple #[])∧DoSays B w w' db lo hi v u u (zAc zAa base over)):=(zIu B W0 db lo hi wb v base over h0).mono (by
        rintro e w' ⟨rfl,hc⟩;have hm:MutSays B W0 w' db lo hi v (zAc zAa base over):=zIi (Upd.refl _ _) hc (Dok.start hall).2;exact⟨rfl,HDO.out _ _ u _ hm (NewL.same (HRW.out _ hm.upd) (Below.refl _ _))⟩)
       subst hu;generalize (zAc zAa base over).length=n at *;clear h hf hr ha ho hb0 hn0 h0 hr0 hall e1 c0 c1 HDO HRW HCO HSAME;go_enter Tryz.func15,Tryz.ntmps15;(go_upto_region 1 with fail);rw[←hob,←hW0];clear hW0 hob;go_wp2_with (go_at_call 25;refine HC.out.mono ?_;rintro e w1 ⟨rfl,hd⟩;have HFF:Hid _:=hd;clear hd k0 k1 k2);go_ret2;exact⟨_,_,_,rfl,HFF.out⟩
     · have b2:(ok==2)=false:=by simpa using c2
       subst hu;generalize (zAc zAa base over).length=n at *;clear h hf hr ha ho hb0 hn0 h0 hr0 hall e1 c0 c1 c2 HDO HRW HCO;go_enter Tryz.func15,Tryz.ntmps15;(go_upto_region 1 with fail);rw[←hob,←hW0];clear hW0 hob;go_wp2;go_ret2;exact⟨_,_,_,rfl,HSAME.out⟩
end Di
namespace Di
def zEi(o:Oo):List Value:=[.int .i64 o.1,.string o.2.1,.int .i64 o.2.2]
def ORow(B:Nat)(w:World)(v:Value)(Z:List Oo):Prop:=GRow B 3 w v (Z.map zEi)
theorem ORow.below{B:Nat}{w w':World}{v:Value}{Z:List Oo}(h:ORow B w v Z)(hb:Below B w w'):ORow B w' v Z:=GRow.below h hb
theorem ORow.form{B:Nat}{w:World}{v:Value}{Z:List Oo}(h:ORow B w v Z):∃ad cap,v = .slice ad Z.length cap:=by
 obtain⟨ad,cap,e⟩:=GRow.shape h;exact⟨ad,cap,by rw[e,List.length_map]⟩
theorem ORow.at{B:Nat}{w:World}{ad:Option Addr}{n cap:Nat}{Z:List Oo}(h:ORow B w (.slice ad n cap) Z){j:Nat}{o:Oo}(hj:Z[j]?=some o):∃g off,ad=some ⟨g,off,none⟩∧g<B∧w.cell? ⟨g,off+j*3,none⟩=some (.int .i64 o.1)∧w.cell? ⟨g,off+j*3+1,none⟩=some (.string o.2.1)∧w.cell? ⟨g,off+j*3+2,none⟩=some (.int .i64 o.2.2):=by
 obtain⟨ad',cap',hv,hc⟩:=GRow.ex h;simp only[Value.slice.injEq]at hv;obtain⟨g,off,rfl,hg,hx⟩:=hc (by rw[List.length_map];have:=(List.getElem?_eq_some_iff.1 hj).1;omega);have e:(Z.map zEi)[j]?=some (zEi o):=by rw[List.getElem?_map,hj];rfl
 exact⟨g,off,hv.1,hg,hx j 0 _ _ e rfl,hx j 1 _ _ e rfl,hx j 2 _ _ e rfl⟩
def OSm(Z:List Oo):Prop:=∀o∈Z,o.2.1.size≤9223372036854775807
structure BSt(B:Nat)(W:World)(db:Nat)(u:Value)(L:List Pr):Prop where
 ex:∃lo hi wb v base over,DictAt B W db lo hi wb v base over∧over.length≤32∧zAc zAa base over=L∧Ap db v u L
 row:PRow W u L
theorem BSt.below{B:Nat}{W W':World}{db:Nat}{u:Value}{L:List Pr}(h:BSt B W db u L)(hb:Below W.heap.size W W'):BSt B W' db u L:=by
 obtain⟨lo,hi,wb,v,base,over,h1,h2,h3,h4⟩:=h.ex;exact⟨⟨lo,hi,wb,v,base,over,h1.below hb,h2,h3,h4⟩,h.row.below hb⟩
theorem BSt.size{B:Nat}{W:World}{db:Nat}{u:Value}{L:List Pr}(h:BSt B W db u L):B≤W.heap.size:=by
 obtain⟨lo,hi,wb,v,base,over,h1,_⟩:=h.ex;exact h1.size
theorem BSt.built{B:Nat}{W:World}{db:Nat}{u:Value}{L:List Pr}(h:BSt B W db u L):zAj L=0:=by
 obtain⟨lo,hi,wb,v,base,over,h1,_,rfl,_⟩:=h.ex;exact h1.ok.all
theorem does_bst(B:Nat)(W:World)(db:Nat)(u:Value)(L:List Pr)(h:BSt B W db u L)(o:Oo)(ho:o.2.1.size≤9223372036854775807):
 Calls Tryz.prog 15 #[.pointer (some ⟨db,0,none⟩),u,opV o] W fun e w'=>∃ad n cap,e = .returned (.tuple #[.slice ad n cap,.bool true])∧BSt B w' db (.slice ad n cap) (stepL L o)∧Below B W w':=by
 obtain⟨lo,hi,wb,v,base,over,h1,h2,rfl,h4⟩:=h.ex;refine(does_any B W db lo hi wb v u base over h1 h2 h.row h4 o ho).mono ?_;rintro e w' ⟨ad,n,cap,rfl,hd⟩;obtain⟨lo',hi',wb',v',b',o',k1,k2,k3,_,_,k6⟩:=hd.ex;exact⟨ad,n,cap,rfl,⟨⟨lo',hi',wb',v',b',o',k1,k2,k3,k6⟩,hd.row⟩,hd.upd.below h1.size (fun k g=>(h1.fp k g).1)⟩
theorem zIb:∀(l:List Pr) (p:Option Pr),zBb p l=0→zAu p l=true
 |[],_,_=>rfl
 |x::r,p,h=>by
  rw[zBb]at h;by_cases h0:oneF p x=0
  · rw[if_pos h0]at h
    rw[zAu,zIb r (some x) h,Bool.and_true];unfold oneF at h0
    split at h0
    · cases h0
    · rename_i c1
      split at h0
      · cases h0
      · rename_i c2
        split at h0
        · cases h0
        · rename_i c3
          unfold zE1;simp only[Bool.and_eq_true,decide_eq_true_eq];refine⟨⟨by simpa using c1,by omega,by omega⟩,by simpa using c3⟩
  · rw[if_neg h0]at h;exact absurd h h0
theorem zP9(l:List Pr):zDy l=decide (zAj l=0):=by
 by_cases h:zAj l=0
 · rw[decide_eq_true h]
   have hl:=(zAm h).2.2;unfold zAj at h;rw[if_neg (by omega)]at h;unfold zDy;rw[decide_eq_true hl,zIb l none h];rfl
 · rw[decide_eq_false h]
   cases hr:zDy l with
   |false=>rfl
   |true=>exact absurd (zOg hr) h
def skip(Z:List Oo)(L:List Pr):Prop:=400<Z.length∨(300<L.length∧L.length≤4096)
theorem zS3(w:World)(u z:Value)(L:List Pr)(B:Nat)(Z:List Oo)(hu:PRow w u L)(hz:ORow B w z Z)(hs:skip Z L):
 Calls Tryz.prog 13 #[u,z] w fun e w'=>e = .returned (.tuple #[.pointer none,.slice none 0 0,.bool true])∧Below w.heap.size w w':=by
 obtain⟨ad,cap,rfl⟩:=hu.form;obtain⟨zd,zc,rfl⟩:=hz.form;unfold skip at hs;generalize Z.length=m at *;generalize L.length=n at *;clear hu hz;by_cases hm:400<m
 · have h1:(400:Int)<(m:Int):=by omega
   clear hs;go_enter Tryz.func13,Tryz.ntmps13;go_wp2;go_returns;exact⟨rfl,Below.refl _ _⟩
 · have h1:¬(400:Int)<(m:Int):=by omega
   (have h2:(300:Int)<(n:Int):=by omega);(have h3:(n:Int)≤4096:=by omega);clear hs;go_enter Tryz.func13,Tryz.ntmps13;go_wp2;go_returns;exact⟨rfl,Below.refl _ _⟩
theorem zS4(w:World)(ht:Tabs w)(u z:Value)(L:List Pr)(B:Nat)(Z:List Oo)(hu:PRow w u L)(hsm:Sm L)(hl:L.length≤9223372036854775807)(hz:ORow B w z Z)(hs:¬skip Z L)(hb:zAj L≠0):
 Calls Tryz.prog 13 #[u,z] w fun e w'=>e = .returned (.tuple #[.pointer none,.slice none 0 0,.bool true])∧Below w.heap.size w w':=by
 have HLD:Hid (Calls Tryz.prog 17 #[u] w fun e w'=>e = .returned (.tuple #[.pointer none,.int .i64 (zAj L)])∧Below w.heap.size w w'):=Load_no w ht u L hu hsm hl hb;have HRG:Hid (∀W,Below w.heap.size w W→Calls Tryz.prog 36 #[u] W fun e w'=>e = .returned (.bool false)∧Below W.heap.size W w'):=fun W hW=>by
  have:=zGx W u L (hu.below hW) hl hsm;rw[zP9,decide_eq_false hb]at this;exact this
 obtain⟨ad,cap,rfl⟩:=hu.form;obtain⟨zd,zc,rfl⟩:=hz.form;have hs':¬400<Z.length∧¬(300<L.length∧L.length≤4096):=⟨fun h=>hs (.inl h),fun h=>hs (.inr h)⟩;obtain⟨C,hC⟩:∃C,zAj L=C:=⟨_,rfl⟩;rw[hC]at HLD hb;have hcb:(C==0)=false:=by simpa using hb
 generalize Z.length=m at *;generalize L.length=n at *;have h1:¬(400:Int)<(m:Int):=by omega
 clear hu hz hs hsm hb hC ht hl;by_cases hn:300<n
 · have h2:(300:Int)<(n:Int):=by omega
   (have h3:¬(n:Int)≤4096:=by omega);clear hs';go_enter Tryz.func13,Tryz.ntmps13
   go_wp2_with (first
    |(go_at_call 17;refine HLD.out.mono ?_;rintro e w1 ⟨rfl,hb1⟩;have HB1:Hid (Below w.heap.size w w1):=hb1;clear hb1)
    |(go_at_call 36;refine(HRG.out _ HB1.out).mono ?_;rintro e w2 ⟨rfl,hb2⟩;have HB2:Hid (Below w.heap.size w w2):=HB1.out.trans (hb2.mono HB1.out.size);clear hb2))
   go_returns;exact⟨by simp;simpa using hcb,HB2.out⟩
 · have h2:¬(300:Int)<(n:Int):=by omega
   clear hs';go_enter Tryz.func13,Tryz.ntmps13
   go_wp2_with (first
    |(go_at_call 17;refine HLD.out.mono ?_;rintro e w1 ⟨rfl,hb1⟩;have HB1:Hid (Below w.heap.size w w1):=hb1;clear hb1)
    |(go_at_call 36;refine(HRG.out _ HB1.out).mono ?_;rintro e w2 ⟨rfl,hb2⟩;have HB2:Hid (Below w.heap.size w w2):=HB1.out.trans (hb2.mono HB1.out.size);clear hb2))
   go_returns;exact⟨by simp;simpa using hcb,HB2.out⟩
theorem zXh(B:Nat)(w:World)(hB:B≤w.heap.size)(ht:TabB B w)(u z:Value)(L:List Pr)(Z:List Oo)(hu:PRow w u L)(hap:0<L.length→∀k,u.ownBlock=some k→k<B)(hsm:Sm L)(hz:ORow B w z Z)(hzs:OSm Z)(hs:¬skip Z L)(hb:zAj L=0):
 Calls Tryz.prog 13 #[u,z] w fun e w'=>∃db ad n cap,e = .returned (.tuple #[.pointer (some ⟨db,0,none⟩),.slice ad n cap,.bool true])∧BSt B w' db (.slice ad n cap) (Z.foldl stepL L)∧Below B w w':=by
 have HLD:Hid (Calls Tryz.prog 17 #[u] w fun e w'=>∃db,e = .returned (.tuple #[.pointer (some ⟨db,0,none⟩),.int .i64 0])∧LoadSays B w w' L db):=zLy B w hB ht u L hu hsm hb;have hl:=(zAm hb).2.2;have HRG:Hid (∀W,Below w.heap.size w W→Calls Tryz.prog 36 #[u] W fun e w'=>e = .returned (.bool true)∧Below W.heap.size W w'):=fun W hW=>by
  have:=zGx W u L (hu.below hW) (by omega) hsm;rw[zP9,decide_eq_true hb]at this;exact this
 have HST:Hid (∀w1 w2 db,LoadSays B w w1 L db→Below w1.heap.size w1 w2→BSt B w2 db u L∧Below B w w2):=fun w1 w2 db h1 h2=>by
  obtain⟨lo,hi,wb,hd,_⟩:=h1.ex;have hbw:=h1.bel.trans (h2.mono h1.bel.size);refine⟨⟨⟨lo,hi,wb,_,L,[],hd.below h2,by simp,(Dok.start hb).2,fun h0 k hk hf=>?_⟩,hu.below hbw⟩,hbw.mono hB⟩;have h3:=hap h0 k hk;rcases hf with hf|hf
  · have:=h1.lo;omega
  · cases hf
 obtain⟨ad,cap,rfl⟩:=hu.form;obtain⟨zd,zc,hzv⟩:=hz.form;obtain⟨m,hm⟩:∃m,Z.length=m:=⟨_,rfl⟩;rw[hm]at hzv;subst hzv;have HZ:Hid (∀W,Below B w W→ORow B W (.slice zd m zc) Z):=fun W hW=>hz.below hW
 have HZL:Hid (Z.length=m):=hm;have HZS:Hid (OSm Z):=hzs;have hs':¬400<m∧¬(300<L.length∧L.length≤4096):=⟨fun h=>hs (.inl (by omega)),fun h=>hs (.inr h)⟩;generalize L.length=n at *;have h1:¬(400:Int)<(m:Int):=by omega
 have h2:¬(300:Int)<(n:Int):=by omega
 clear hu hz hs hsm hb ht hl hB hm hzs hap hs';go_enter Tryz.func13,Tryz.ntmps13
 go_wp2_with (first
  |(go_at_call 17;refine HLD.out.mono ?_;rintro e w1 ⟨db,rfl,hls⟩;have HLS:Hid (LoadSays B w w1 L db):=hls;clear hls)
  |(go_at_call 36;refine(HRG.out _ HLS.out.bel).mono ?_;rintro e w2 ⟨rfl,hb2⟩;have hst:=HST.out _ _ _ HLS.out hb2;have HB0:Hid (BSt B w2 db (.slice ad n cap) L∧Below B w w2):=hst;clear hb2 hst))
 go_loopg [0,10,11,12,44] m (fun gm s0 s10 s11 s12 s44 wr=>∃(j:Nat) (xd:Option Addr) (xn xc:Nat),s44 = .int .i64 j∧j≤m∧m-j≤gm∧s0 = .slice xd xn xc∧Hid (BSt B wr db (.slice xd xn xc) ((Z.take j).foldl stepL L)∧Below B w wr))
 case atStart=>exact⟨0,ad,n,cap,rfl,Nat.zero_le _,by omega,rfl,HB0⟩
 case round=>
  obtain⟨j,xd,xn,xc,rfl,hj,hgm,rfl,HS⟩:=hrel;by_cases hlt:j<m
  · have hltz:(j:Int)<(m:Int):=by omega
    obtain⟨o,ho⟩:∃o,Z[j]?=some o:=⟨Z[j]'(by have:=HZL.out;omega),List.getElem?_eq_getElem _⟩;obtain⟨g,off,hgo,hg,x0,x1,x2⟩:=(HZ.out wr HS.out.2).at ho;subst hgo;have HSTP:Hid ((Z.take (j+1)).foldl stepL L=stepL ((Z.take j).foldl stepL L) o):=by
     obtain⟨hjl,e⟩:=List.getElem?_eq_some_iff.1 ho;show _=_;rw[List.take_succ_eq_append_getElem hjl,e,List.foldl_append];rfl
    have HOS:Hid (o.2.1.size≤9223372036854775807):=HZS.out o (List.mem_of_getElem? ho);obtain⟨W5,hW5⟩:∃W5,W5=wr.alloc (.cells #[.int .i64 o.1,.string o.2.1,.int .i64 o.2.2] 29):=⟨_,rfl⟩;obtain⟨pb,hpb⟩:∃pb,pb=wr.heap.size:=⟨_,rfl⟩;(have hn5:W5.heap[pb]?=some (.cells #[.int .i64 o.1,.string o.2.1,.int .i64 o.2.2] 29):=by rw[hW5,hpb];exact zAb _ _);(have hb5:Below wr.heap.size wr W5:=by rw[hW5];exact(Below.refl _ wr).alloc (Nat.le_refl _) _);have HS5:Hid (BSt B W5 db (.slice xd xn xc) ((Z.take j).foldl stepL L)∧Below B w W5):=⟨HS.out.1.below hb5,HS.out.2.trans (hb5.mono HS.out.1.size)⟩;(have y0:W5.cell? ⟨pb,0,none⟩=some (.int .i64 o.1):=by simp[World.cell?,hn5]);(have y1:W5.cell? ⟨pb,1,none⟩=some (.string o.2.1):=by simp[World.cell?,hn5]);(have y2:W5.cell? ⟨pb,2,none⟩=some (.int .i64 o.2.2):=by simp[World.cell?,hn5]);have HDO:Hid (Calls Tryz.prog 15 #[.pointer (some ⟨db,0,none⟩),.slice xd xn xc,.agg #[.int .i64 o.1,.string o.2.1,.int .i64 o.2.2]] W5 fun e w'=>∃ad n cap,e = .returned (.tuple #[.slice ad n cap,.bool true])∧BSt B w' db (.slice ad n cap) (stepL ((Z.take j).foldl stepL L) o)∧Below B W5 w'):=does_bst B W5 db _ _ HS5.out.1 o HOS.out;clear ho hn5 hb5 hg;(go_upto_region 11 with fail);rw[←hpb,←hW5];clear hpb hW5 x0 x1 x2;go_wp2_with (go_at_call 15;refine HDO.out.mono ?_;rintro e w6 ⟨a6,n6,c6,rfl,hs6,hb6⟩;have HN:Hid (BSt B w6 db (.slice a6 n6 c6) ((Z.take (j+1)).foldl stepL L)∧Below B w w6):=⟨by rw[HSTP.out];exact hs6,HS5.out.2.trans hb6⟩;clear hs6 hb6 y0 y1 y2);go_roundg (m-(j+1));(case measure=>omega);case rel=>exact⟨j+1,a6,n6,c6,by go_num,by omega,Nat.le_refl _,rfl,HN⟩
  · have hltz:¬(j:Int)<(m:Int):=by omega
    have HE:Hid (Z.take j=Z):=List.take_of_length_le (by have:=HZL.out;omega);go_wp2;go_returns;exact⟨db,xd,xn,xc,rfl,by have:=HS.out.1;rw[HE.out]at this;exact this,HS.out.2⟩
end Di
namespace Di
theorem zXi(w:World)(ht:Tabs w)(u z:Value)(L:List Pr)(B:Nat)(Z:List Oo)(hu:PRow w u L)(hsm:Sm L)(hl:L.length≤9223372036854775807)(hz:ORow B w z Z)(h:skip Z L∨zAj L≠0):
 Calls Tryz.prog 13 #[u,z] w fun e w'=>e = .returned (.tuple #[.pointer none,.slice none 0 0,.bool true])∧Below w.heap.size w w':=by
 by_cases hs:skip Z L
 · exact zS3 w u z L B Z hu hz hs
 · rcases h with h|h
   · exact absurd h hs
   · exact zS4 w ht u z L B Z hu hsm hl hz hs h
theorem begun_on(w:World)(ht:Tabs w)(u z:Value)(L:List Pr)(E:Nat)(hE:E≤w.heap.size)(Z:List Oo)(hu:PRow w u L)(hsm:Sm L)(hz:ORow E w z Z)(hzs:OSm Z)(h:¬(skip Z L∨zAj L≠0)):
 Calls Tryz.prog 13 #[u,z] w fun e w'=>∃db ad n cap,e = .returned (.tuple #[.pointer (some ⟨db,0,none⟩),.slice ad n cap,.bool true])∧BSt w.heap.size w' db (.slice ad n cap) (Z.foldl stepL L)∧Below w.heap.size w w':=
 zXh w.heap.size w (Nat.le_refl _) (TabB.of ht) u z L Z hu (fun h0 _ hk=>zUl hu h0 hk) hsm (GRow.mono hz hE) hzs (fun e=>h (.inl e)) (by by_cases e:zAj L=0;exact e;exact absurd (.inr e) h)
theorem BSt.sug{B:Nat}{W:World}{db:Nat}{u:Value}{L:List Pr}(h:BSt B W db u L)(q:Mt)(hq:q.1.size≤9223372036854775807):
 Calls Tryz.prog 22 #[.pointer (some ⟨db,0,none⟩),.agg #[.string q.1,.int .i64 q.2.1,.int .i64 q.2.2]] W fun e w'=>∃ad n cap,e = .returned (.tuple #[.slice ad n cap,.int .i64 (allC q.1.data.toList q.2.1)])∧MRow w' (.slice ad n cap) (sugL L q)∧(∀k,(Value.slice ad n cap).ownBlock=some k→W.heap.size≤k)∧Below W.heap.size W w':=by
 obtain⟨lo,hi,wb,v,base,over,h1,h2,rfl,_⟩:=h.ex;exact zIr B W db lo hi wb v base over h1 q hq
theorem sug_len{L:List Pr}(hb:zAj L=0)(q:Mt):(sugL L q).length≤4096:=by
 unfold sugL;rw[Bt.bestF_len];have h1:=zHj L q.1.data.toList q.2.1;have h2:=(zAm hb).2.2;omega
end Di
end
section
open Go.ChangeShapes Go.WideShapes Go.ChangeAt Go.RowKit Go.Deep Fz Di
namespace Di
def OSm1(o:Oo):Prop:=o.2.1.size≤9223372036854775807
theorem oCells:Tryz.prog.cellsOf 29=3:=by kernel_rfl
theorem op_cells{H:Type}{enc:TypeId×Value→H}{W:World}{fuel:Nat}{cs:List Value}{x:DataW H×List MemPlace}
 (h:DataW.trod enc Tryz.prog W 0 (fun _=>true) true fuel 29 cs=some x):∃p:Oo,cs=zEi p∧OSm1 p:=by
 obtain⟨y0,y1,y2,n,_,hl,g0,g1,g2⟩:=trod_struct3 Tryz.underlying29 h;rw[oCells]at hl
 match cs,hl with
 |[v0,v1,v2],_=>
  simp[zKr,zLh]at g0 g1 g2;obtain⟨z,e0,_,w0⟩:=DataW.trod_int Tryz.underlying3 g0;obtain⟨s,e1,_,w1⟩:=DataW.trod_string Tryz.underlying9 g1;obtain⟨z2,e2,_,w2⟩:=DataW.trod_int Tryz.underlying3 g2;simp only[List.cons.injEq,and_true]at e0 e1 e2;subst e0 e1 e2;refine⟨(z,s,z2),rfl,?_⟩;have hw:=w1;unfold maxLen at hw;exact hw
theorem ops_in{H:Type}{enc:TypeId×Value→H}{W:World}{base:Nat}{v:Value}{d:DataW H}{p:List MemPlace}
 (hok:Value.okWide Tryz.prog W .any base 23 v) (h:DataW.Trod enc Tryz.prog W 0 (fun _=>true) true 23 v d p):∃L:List Oo,ORow W.heap.size W v L∧OSm L∧L.length≤big d:=by
 obtain⟨a0,len,cap,rfl⟩:=okWide_slice Tryz.underlying23 hok;obtain⟨fuel,hf⟩:=h;rcases open_slice Tryz.underlying23 hf with⟨hcs,hx⟩|⟨a,len',cap',m,n,D,Pl,hcs,_,hl,hm,hmm,hx,hel⟩
 · simp[Value.cells]at hcs
   obtain⟨rfl,rfl,rfl⟩:=hcs;exact⟨[],⟨none,0,rfl,fun h=>by simp at h⟩,(fun x hx=>absurd hx List.not_mem_nil),by simp⟩
 · simp[Value.cells]at hcs
   obtain⟨rfl,rfl,rfl⟩:=hcs;(have hlm:len≤m:=by rw[hmm];split<;>omega);have each:∀i,i<m→∃o:Oo,OSm1 o∧W.cell? (a.add (i*3))=some (.int .i64 o.1)∧W.cell? (a.add (i*3+1))=some (.string o.2.1)∧W.cell? (a.add (i*3+2))=some (.int .i64 o.2.2):=by
    intro i hi;obtain⟨cs',h1,h2⟩:=hel i hi;rw[oCells]at h1;obtain⟨_,hlen,hcell⟩:=World.cells?_some h1;obtain⟨q,rfl,hq⟩:=op_cells h2;have c0:=hcell 0 (by simp);have c1:=hcell 1 (by simp);have c2:=hcell 2 (by simp);rw[add_add]at c0 c1 c2;exact⟨q,hq,by simpa[zEi]using c0,by simpa[zEi]using c1,by simpa[zEi]using c2⟩
   have hch:∃f:Nat→Oo,∀i,i<m→OSm1 (f i)∧W.cell? (a.add (i*3))=some (.int .i64 (f i).1)∧W.cell? (a.add (i*3+1))=some (.string (f i).2.1)∧W.cell? (a.add (i*3+2))=some (.int .i64 (f i).2.2):=
    ⟨fun i=>if hi:i<m then Classical.choose (each i hi)else (0,ByteArray.empty,0),fun i hi=>by
     simp only[dif_pos hi];exact Classical.choose_spec (each i hi)⟩
   obtain⟨f,hfe⟩:=hch;have hget:∀i o,((List.range len).map f)[i]?=some o→i<len∧o=f i:=fun i o hi=>by
    rw[List.getElem?_map]at hi;have hil:i<len:=by
     cases hr:(List.range len)[i]? with
     |none=>rw[hr]at hi;cases hi
     |some j=>have:=(List.getElem?_eq_some_iff.1 hr).1;simpa using this
    rw[List.getElem?_range hil]at hi;simp only[Option.map_some,Option.some.injEq]at hi;exact⟨hil,hi.symm⟩
   simp only[Prod.mk.injEq]at hx;obtain⟨rfl,_⟩:=hx;refine⟨(List.range len).map f,⟨some a,cap,by simp,fun h0=>?_⟩,?_,?_⟩
   · have h0':0<len:=by simpa using h0
     obtain⟨b,off,rfl⟩:∃b off,a=⟨b,off,none⟩:=by
      obtain⟨_,c0,_⟩:=hfe 0 (by omega);obtain⟨b,off,sp⟩:=a;cases sp with
      |none=>exact⟨b,off,rfl⟩
      |some s=>exfalso;revert c0;unfold Addr.add World.cell?;split<;>simp
     (have hadd:∀j,(⟨b,off,none⟩:Addr).add j=⟨b,off+j,none⟩:=fun j=>by unfold Addr.add;split<;>simp_all);refine⟨b,off,rfl,?_,fun i j x u hi hj=>?_⟩
     · obtain⟨_,c0,_⟩:=hfe 0 (by omega)
       rw[hadd]at c0;exact zAq c0
     · rw[List.getElem?_map]at hi
       cases ho:((List.range len).map f)[i]? with
       |none=>rw[ho]at hi;cases hi
       |some o=>
        rw[ho]at hi;simp only[Option.map_some,Option.some.injEq]at hi;subst hi;obtain⟨hil,rfl⟩:=hget i o ho;obtain⟨_,c0,c1,c2⟩:=hfe i (by omega);rw[hadd]at c0 c1 c2
        match j,hj with
        |0,hj=>simp[zEi]at hj;subst hj;exact c0
        |1,hj=>simp[zEi]at hj;subst hj;simpa[Nat.add_assoc]using c1
        |2,hj=>simp[zEi]at hj;subst hj;simpa[Nat.add_assoc]using c2
        |n+3,hj=>simp[zEi]at hj
   · intro x hx
     obtain⟨i,hi⟩:=List.mem_iff_getElem?.1 hx;obtain⟨hil,rfl⟩:=hget i x hi;exact(hfe i (by omega)).1
   · simp[big]
end Di
end
