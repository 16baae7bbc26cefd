import Derived.Test.YtobjpljdgieklaaGreatDoorJ53
import Derived.Test.YtobjpljdgieklaaGreatDoorJ49
namespace Go.Proofs.YtobjpljdgieklaaGreatDoor
open Go.RowKit Go.Shelf Go.Lib Nums Fm Pk Pm Fz Ed Lv Di
set_option maxRecDepth 100000
set_option maxHeartbeats 1000000 in
theorem dsug_walk(v z:Value)(q:Mt)(w:World)(ht:Tabs w)(L:List Pr)(h:PRow w v L)(hs:Sm L)(hl:L.length≤9223372036854775807)(Z:List Oo)(hz:ORow w.heap.size w z Z)(hzs:OSm Z)(hq:SmM q):
 Calls Tryz.prog 6 #[v,z,.agg #[.string q.1,.int .i64 q.2.1,.int .i64 q.2.2]] w fun e w'=>e = .returned (.bool true)∧Below w.heap.size w w':=by
 have hqs:q.1.size≤9223372036854775807:=hq;obtain⟨W0,hW0⟩:∃W0,W0=w.alloc (.cells #[.string q.1,.int .i64 q.2.1,.int .i64 q.2.2] 49):=⟨_,rfl⟩;obtain⟨qb,hqb⟩:∃qb,qb=w.heap.size:=⟨_,rfl⟩;have hb0:Below w.heap.size w W0:=by rw[hW0];exact(Below.refl _ w).alloc (Nat.le_refl _) _
 have hn0:W0.heap[qb]?=some (.cells #[.string q.1,.int .i64 q.2.1,.int .i64 q.2.2] 49):=by rw[hW0,hqb];exact zAb _ _
 have HB:Hid (∀W,Below W0.heap.size W0 W→Below w.heap.size w W):=fun W hW=>hb0.trans (hW.mono hb0.size)
 have HAL:Hid (∀W,Below W0.heap.size W0 W→Calls Tryz.prog 14 #[] W fun e w'=>e = .returned (.bool true)∧Below W.heap.size W w'):=fun W hW=>zPk W (ht.below (HB.out W hW))
 have HQ:Hid (∀W,Below W0.heap.size W0 W→W.cell? ⟨qb,0,none⟩=some (.string q.1)∧W.cell? ⟨qb,1,none⟩=some (.int .i64 q.2.1)∧W.cell? ⟨qb,2,none⟩=some (.int .i64 q.2.2)):=fun W hW=>by
  have:=(hW.block qb (Array.getElem?_eq_some_iff.1 hn0).1).trans hn0;exact⟨by simp[World.cell?,this],by simp[World.cell?,this],by simp[World.cell?,this]⟩
 obtain⟨vd,vc,hv⟩:=h.form;obtain⟨zd,zc,hzv⟩:=hz.form;by_cases hc:skip Z L∨zAj L≠0
 · have HBG:Hid (Calls Tryz.prog 13 #[v,z] W0 fun e w'=>e = .returned (.tuple #[.pointer none,.slice none 0 0,.bool true])∧Below W0.heap.size W0 w'):=zXi W0 (ht.below hb0) v z L _ Z (h.below hb0) hs hl (hz.below hb0) hc
   subst hv;subst hzv;generalize L.length=n at *;generalize Z.length=m at *;clear h hs hz hzs hq hqs hc ht hl hb0 hn0 HQ;go_enter Tryz.func6,Tryz.ntmps6;(go_upto_region 1 with fail);rw[←hW0];clear hW0 hqb
   go_wp2_with (first
    |(go_at_call 13;refine HBG.out.mono ?_;rintro e w1 ⟨rfl,hb1⟩;have HB1:Hid (Below W0.heap.size W0 w1):=hb1;clear hb1)
    |(go_at_call 14;refine(HAL.out _ HB1.out).mono ?_;rintro e w2 ⟨rfl,hb2⟩;have HB2:Hid (Below W0.heap.size W0 w2):=HB1.out.trans (hb2.mono HB1.out.size);clear hb2))
   go_ret;exact⟨by first|rfl|simp,HB.out _ HB2.out⟩
 · have HBG:Hid (Calls Tryz.prog 13 #[v,z] W0 fun e w'=>∃db ad n cap,e = .returned (.tuple #[.pointer (some ⟨db,0,none⟩),.slice ad n cap,.bool true])∧BSt W0.heap.size w' db (.slice ad n cap) (Z.foldl stepL L)∧Below W0.heap.size W0 w'):=begun_on W0 (ht.below hb0) v z L _ hb0.size Z (h.below hb0) hs (hz.below hb0) hzs hc
   obtain⟨M,hM⟩:∃M,Z.foldl stepL L=M:=⟨_,rfl⟩;rw[hM]at HBG
   have HSG:Hid (∀W db u,BSt W0.heap.size W db u M→Calls Tryz.prog 22 #[.pointer (some ⟨db,0,none⟩),.agg #[.string q.1,.int .i64 q.2.1,.int .i64 q.2.2]] W fun e w'=>∃ad n cap,e = .returned (.tuple #[.slice ad n cap,.int .i64 (allC q.1.data.toList q.2.1)])∧MRow w' (.slice ad n cap) (sugL M q)∧Below W.heap.size W w'):=fun W db u hb=>(hb.sug q hqs).mono (by
    rintro e w' ⟨ad,n,cap,rfl,h1,_,h3⟩;exact⟨ad,n,cap,rfl,h1,h3⟩)
   (have HRS:Hid (∀W db u,BSt W0.heap.size W db u M→Calls Tryz.prog 23 #[u,.agg #[.string q.1,.int .i64 q.2.1,.int .i64 q.2.2]] W fun e w'=>∃ad n cap,e = .returned (.tuple #[.slice ad n cap,.int .i64 (allC q.1.data.toList q.2.1)])∧MRow w' (.slice ad n cap) (sugL M q)∧Below W.heap.size W w'):=fun W db u hb=>zIz W u M hb.row hb.built q hqs);(have HSM:Hid (∀W db u a b,BSt W0.heap.size W db u M→MRow W a (sugL M q)→MRow W b (sugL M q)→Calls Tryz.prog 24 #[a,b] W fun e w'=>e = .returned (.bool true)∧Below W.heap.size W w'):=fun W db u a b hb k1 k2=>zOb W a b _ k1 k2 (by have:=sug_len hb.built q;omega));generalize allC q.1.data.toList q.2.1=C at *;generalize sugL M q=R at *;(have q1:(C==C)=true:=by simp);subst hv;subst hzv;generalize L.length=n at *;generalize Z.length=m at *;clear h hs hz hzs hq hqs hc ht hl hM hb0 hn0;obtain⟨qs,qe,qk⟩:=q;simp only at *;go_enter Tryz.func6,Tryz.ntmps6;(go_upto_region 1 with fail);rw[←hqb,←hW0];clear hW0 hqb
   go_wp2_with (first
    |(go_at_call 13;refine HBG.out.mono ?_;rintro e w1 ⟨db,ad,an,ac,rfl,hs1,hb1⟩;have HS1:Hid (BSt W0.heap.size w1 db (.slice ad an ac) M∧Below W0.heap.size W0 w1):=⟨hs1,hb1⟩;obtain⟨y0,y1,y2⟩:=HQ.out w1 hb1;clear hs1 hb1)
    |(go_at_call 22;refine(HSG.out _ _ _ HS1.out.1).mono ?_;rintro e w2 ⟨a2,n2,c2,rfl,hm2,hb2⟩;have HS2:Hid (BSt W0.heap.size w2 db (.slice ad an ac) M∧Below W0.heap.size W0 w2∧MRow w2 (.slice a2 n2 c2) R):=⟨HS1.out.1.below hb2,HS1.out.2.trans (hb2.mono HS1.out.2.size),hm2⟩;obtain⟨z0,z1,z2⟩:=HQ.out w2 HS2.out.2.1;clear hb2 hm2 y0 y1 y2)
    |(go_at_call 23;refine(HRS.out _ _ _ HS2.out.1).mono ?_;rintro e w3 ⟨a3,n3,c3,rfl,hm3,hb3⟩;have HS3:Hid (BSt W0.heap.size w3 db (.slice ad an ac) M∧Below W0.heap.size W0 w3∧MRow w3 (.slice a2 n2 c2) R∧MRow w3 (.slice a3 n3 c3) R):=⟨HS2.out.1.below hb3,HS2.out.2.1.trans (hb3.mono HS2.out.2.1.size),HS2.out.2.2.below hb3,hm3⟩;clear hb3 hm3 z0 z1 z2)
    |(go_at_call 14;refine(HAL.out _ HS3.out.2.1).mono ?_;rintro e w4 ⟨rfl,hb4⟩;have HS4:Hid (BSt W0.heap.size w4 db (.slice ad an ac) M∧Below W0.heap.size W0 w4∧MRow w4 (.slice a2 n2 c2) R∧MRow w4 (.slice a3 n3 c3) R):=⟨HS3.out.1.below hb4,HS3.out.2.1.trans (hb4.mono HS3.out.2.1.size),HS3.out.2.2.1.below hb4,HS3.out.2.2.2.below hb4⟩;clear hb4)
    |(go_at_call 24;refine(HSM.out _ _ _ _ _ HS4.out.1 HS4.out.2.2.1 HS4.out.2.2.2).mono ?_;rintro e w5 ⟨rfl,hb5⟩;have HB5:Hid (Below W0.heap.size W0 w5):=HS4.out.2.1.trans (hb5.mono HS4.out.2.1.size);clear hb5))
   go_ret;exact⟨by first|rfl|simp,HB.out _ HB5.out⟩
