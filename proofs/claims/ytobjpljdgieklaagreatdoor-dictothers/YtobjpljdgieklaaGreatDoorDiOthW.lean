import Derived.Test.YtobjpljdgieklaaGreatDoorJ52
namespace Go.Proofs.YtobjpljdgieklaaGreatDoor
open Go.RowKit Go.Shelf Go.Lib Nums Fm Pk Pm Fz Ed Lv Di
set_option maxRecDepth 100000
theorem zWx{M:List Pr}(hb:zAf M=0){o:Oo}{s:ByteArray}(h:o.2.1≠s):Pm.find (Di.stepL M o) s=Pm.find M s:=by
 unfold Di.stepL
 split
 · unfold setL
   split
   · rw[put,(zH1 lessB_sto _ _ (zEk hb)).2.2,if_neg h]
   · rfl
 · split
   · unfold remL
     split
     · rw[zK0,if_neg h]
     · rfl
   · rfl
set_option maxHeartbeats 1000000 in
theorem doth_walk(v:Value)(o:Oo)(s:ByteArray)(w:World)(ht:Tabs w)(L:List Pr)(h:PRow w v L)(hs:Sm L)(hl:L.length≤9223372036854775807)(ho:o.2.1.size≤9223372036854775807)(hsz:s.size≤maxLen):
 Calls Tryz.prog 11 #[v,opV o,.string s] w fun e w'=>e = .returned (.bool true)∧Below w.heap.size w w':=by
 have hsz:s.size≤9223372036854775807:=by unfold maxLen at hsz;omega
 obtain⟨W0,hW0⟩:∃W0,W0=w.alloc (.cells #[.int .i64 o.1,.string o.2.1,.int .i64 o.2.2] 29):=⟨_,rfl⟩;obtain⟨ob,hob⟩:∃ob,ob=w.heap.size:=⟨_,rfl⟩;have hb0:Below w.heap.size w W0:=by rw[hW0];exact(Below.refl _ w).alloc (Nat.le_refl _) _
 have hn0:W0.heap[ob]?=some (.cells #[.int .i64 o.1,.string o.2.1,.int .i64 o.2.2] 29):=by rw[hW0,hob];exact zAb _ _
 have HB:Hid (∀W,Below W0.heap.size W0 W→Below w.heap.size w W):=fun W hW=>hb0.trans (hW.mono hb0.size)
 have HAL:Hid (∀W,Below W0.heap.size W0 W→Calls Tryz.prog 14 #[] W fun e w'=>e = .returned (.bool true)∧Below W.heap.size W w'):=fun W hW=>zCq W (ht.below (HB.out W hW))
 have HQ:Hid (∀W,Below W0.heap.size W0 W→W.cell? ⟨ob,0,none⟩=some (.int .i64 o.1)∧W.cell? ⟨ob,1,none⟩=some (.string o.2.1)∧W.cell? ⟨ob,2,none⟩=some (.int .i64 o.2.2)):=fun W hW=>by
  have:=(hW.block ob (Array.getElem?_eq_some_iff.1 hn0).1).trans hn0;exact⟨by simp[World.cell?,this],by simp[World.cell?,this],by simp[World.cell?,this]⟩
 obtain⟨vd,vc,hv⟩:=h.form;have hz:ORow W0.heap.size W0 (.slice none 0 0) []:=ORow.nil _ _;have hzs:OSm []:=fun o ho=>by cases ho
 by_cases hc:skip [] L∨zAf L≠0
 · have HBG:Hid (Calls Tryz.prog 13 #[v,.slice none 0 0] W0 fun e w'=>e = .returned (.tuple #[.pointer none,.slice none 0 0,.bool true])∧Below W0.heap.size W0 w'):=zEl W0 (ht.below hb0) v _ L _ [] (h.below hb0) hs hl hz hc
   subst hv;generalize L.length=n at *;clear h hs hz hzs hsz ho hc ht hl hb0 hn0 HQ;obtain⟨ok,os,on⟩:=o;unfold opV;simp only at *;go_enter Tryz.func11,Tryz.ntmps11;(go_upto_region 1 with fail);rw[←hW0];clear hW0 hob
   go_wp2_with (first
    |(go_at_call 13;refine HBG.out.mono ?_;rintro e w1 ⟨rfl,hb1⟩;have HB1:Hid (Below W0.heap.size W0 w1):=hb1;clear hb1)
    |(go_at_call 14;refine(HAL.out _ HB1.out).mono ?_;rintro e w2 ⟨rfl,hb2⟩;have HB2:Hid (Below W0.heap.size W0 w2):=HB1.out.trans (hb2.mono HB1.out.size);clear hb2))
   go_ret;exact⟨by first|rfl|simp,HB.out _ HB2.out⟩
 · have HBG:Hid (Calls Tryz.prog 13 #[v,.slice none 0 0] W0 fun e w'=>∃db ad n cap,e = .returned (.tuple #[.pointer (some ⟨db,0,none⟩),.slice ad n cap,.bool true])∧BSt W0.heap.size w' db (.slice ad n cap) L∧Below W0.heap.size W0 w'):=zHn W0 (ht.below hb0) v _ L _ (Nat.le_refl _) [] (h.below hb0) hs hz hzs hc
   (have hbl:zAf L=0:=by by_cases e:zAf L=0;exact e;exact absurd (.inr e) hc);(have HF:Hid (∀W db u,BSt W0.heap.size W db u L→Calls Tryz.prog 21 #[u,.string s] W fun e w'=>e = .returned (.tuple #[.int .i64 ((Pm.find L s).getD 0),.bool (Pm.find L s).isSome])∧w'=W):=fun W db u hb=>hb.rfind s);(have HDO:Hid (∀W db u,BSt W0.heap.size W db u L→Calls Tryz.prog 15 #[.pointer (some ⟨db,0,none⟩),u,opV o] W fun e w'=>∃ad n cap,e = .returned (.tuple #[.slice ad n cap,.bool true])∧BSt W0.heap.size w' db (.slice ad n cap) (Di.stepL L o)∧Below W0.heap.size W w'):=fun W db u hb=>zLj _ W db u L hb o ho);(have HW:Hid (∀W db u,BSt W0.heap.size W db u (Di.stepL L o)→Calls Tryz.prog 20 #[.pointer (some ⟨db,0,none⟩),.string s] W fun e w'=>e = .returned (.tuple #[.int .i64 ((Pm.find (Di.stepL L o) s).getD 0),.bool (Pm.find (Di.stepL L o) s).isSome])∧Below W.heap.size W w'):=fun W db u hb=>hb.find s hsz);subst hv;by_cases hws:o.2.1=s
   · have hse:(o.2.1.toList==s.toList)=true:=by rw[zD0];exact decide_eq_true hws
     generalize L.length=n at *;clear h hs hz hzs hsz ho hc ht hl hb0 hn0 HF HDO HW hws hbl;obtain⟨ok,os,on⟩:=o;unfold opV;simp only at *;go_enter Tryz.func11,Tryz.ntmps11;(go_upto_region 1 with fail);rw[←hob,←hW0];clear hW0 hob
     go_wp2_with (first
      |(go_at_call 13;refine HBG.out.mono ?_;rintro e w1 ⟨db,ad,an,ac,rfl,_,hb1⟩;have HB1:Hid (Below W0.heap.size W0 w1):=hb1;obtain⟨y0,y1,y2⟩:=HQ.out w1 hb1;clear hb1)
      |(go_at_call 14;refine(HAL.out _ HB1.out).mono ?_;rintro e w2 ⟨rfl,hb2⟩;have HB2:Hid (Below W0.heap.size W0 w2):=HB1.out.trans (hb2.mono HB1.out.size);clear hb2))
     go_ret;exact⟨by first|rfl|simp,HB.out _ HB2.out⟩
   · have hse:(o.2.1.toList==s.toList)=false:=by rw[zD0];exact decide_eq_false hws
     rw[zWx hbl hws]at HW;generalize (Pm.find L s).getD 0=fx at *;generalize (Pm.find L s).isSome=fb at *;(have q1:(fx==fx)=true:=by simp);(have q2:(fb==fb)=true:=by simp);generalize L.length=n at *;clear h hs hz hzs hsz ho hc ht hl hb0 hn0 hws hbl;obtain⟨ok,os,on⟩:=o;unfold opV at *;simp only at *;go_enter Tryz.func11,Tryz.ntmps11;(go_upto_region 1 with fail);rw[←hob,←hW0];clear hW0 hob
     go_wp2_with (first
      |(go_at_call 13;refine HBG.out.mono ?_;rintro e w1 ⟨db,ad,an,ac,rfl,hs1,hb1⟩;have HS1:Hid (BSt W0.heap.size w1 db (.slice ad an ac) L∧Below W0.heap.size W0 w1):=⟨hs1,hb1⟩;obtain⟨y0,y1,y2⟩:=HQ.out w1 hb1;clear hs1 hb1)
      |(go_at_call 21;refine(HF.out _ _ _ HS1.out.1).mono ?_;rintro e w3 ⟨rfl,hw3⟩;rw[hw3];clear hw3)
      |(go_at_call 15;refine(HDO.out _ _ _ HS1.out.1).mono ?_;rintro e w4 ⟨a4,n4,c4,rfl,hs4,hb4⟩;have HS4:Hid (BSt W0.heap.size w4 db (.slice a4 n4 c4) (Di.stepL L (ok,os,on))∧Below W0.heap.size W0 w4):=⟨hs4,HS1.out.2.trans hb4⟩;clear hs4 hb4 y0 y1 y2)
      |(go_at_call 20;refine(HW.out _ _ _ HS4.out.1).mono ?_;rintro e w5 ⟨rfl,hb5⟩;have HB5:Hid (Below W0.heap.size W0 w5):=HS4.out.2.trans (hb5.mono HS4.out.2.size);clear hb5)
      |(go_at_call 14;refine(HAL.out _ HB5.out).mono ?_;rintro e w6 ⟨rfl,hb6⟩;have HB6:Hid (Below W0.heap.size W0 w6):=HB5.out.trans (hb6.mono HB5.out.size);clear hb6))
     go_ret;exact⟨by first|rfl|simp,HB.out _ HB6.out⟩
