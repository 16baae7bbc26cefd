import Derived.Test.YtobjpljdgieklaaGreatDoorJ52
import Derived.Test.YtobjpljdgieklaaGreatDoorMtsIn
namespace Go.Proofs.YtobjpljdgieklaaGreatDoor
open Go.RowKit Go.Shelf Go.Lib Nums Fm Pk Pm Fz Ed Lv Di
set_option maxRecDepth 100000
structure CSt(B:Nat)(W:World)(db:Nat)(u:Value)(L:List Pr):Prop where
 b:BSt B W db u L
 c:W.cell? ⟨db,1,none⟩=some (.slice none 0 0)
theorem CSt.below{B:Nat}{W W':World}{db:Nat}{u:Value}{L:List Pr}(h:CSt B W db u L)(hb:Below W.heap.size W W'):CSt B W' db u L:=
 ⟨h.b.below hb,(hb.cell (p:=⟨db,1,none⟩) (World.block_lt_of_cell? _ _ h.c)).trans h.c⟩
theorem comp_bst(B:Nat)(W:World)(db:Nat)(u:Value)(L:List Pr)(h:BSt B W db u L):
 Calls Tryz.prog 25 #[.pointer (some ⟨db,0,none⟩)] W fun e w'=>e = .returned (.tuple #[])∧CSt B w' db u L∧Upd (fun k=>k=db) W w'∧B≤db∧db<W.heap.size:=by
 obtain⟨lo,hi,wb,v,base,over,h1,h2,rfl,h4⟩:=h.ex;refine(zFe B W db lo hi wb v base over h1).mono ?_;rintro e w' ⟨rfl,hc⟩;obtain⟨lo',hi',wb',hd,_⟩:=hc.ex;refine⟨rfl,⟨⟨⟨lo',hi',wb',_,_,[],hd,by simp,(Dok.start h1.ok.all).2,fun h0 k hk hf=>?_⟩,zKx h.row hc.upd (fun h0 k hk e=>h4 h0 k hk (.inl e))⟩,hd.cells.2.1⟩,hc.upd,h1.low,h1.lt⟩;rcases hf with hf|hf
 · exact h4 h0 k hk (.inl hf)
 · cases hf
set_option maxHeartbeats 1000000 in
theorem dcomp_walk(v z:Value)(q:Mt)(w:World)(ht:Tabs w)(L:List Pr)(h:PRow w v L)(hs:Sm L)(hl:L.length≤9223372036854775807)(Z:List Oo)(hz:ORow w.heap.size w z Z)(hzs:OSm Z)(hq:SmM q):
 Calls Tryz.prog 7 #[v,z,.agg #[.string q.1,.int .i64 q.2.1,.int .i64 q.2.2]] w fun e w'=>e = .returned (.bool true)∧Below w.heap.size w w':=by
 have hqs:q.1.size≤9223372036854775807:=hq;obtain⟨W0,hW0⟩:∃W0,W0=w.alloc (.cells #[.string q.1,.int .i64 q.2.1,.int .i64 q.2.2] 49):=⟨_,rfl⟩;obtain⟨qb,hqb⟩:∃qb,qb=w.heap.size:=⟨_,rfl⟩;have hb0:Below w.heap.size w W0:=by rw[hW0];exact(Below.refl _ w).alloc (Nat.le_refl _) _
 have hn0:W0.heap[qb]?=some (.cells #[.string q.1,.int .i64 q.2.1,.int .i64 q.2.2] 49):=by rw[hW0,hqb];exact zAb _ _
 have HB:Hid (∀W,Below W0.heap.size W0 W→Below w.heap.size w W):=fun W hW=>hb0.trans (hW.mono hb0.size)
 have HAL:Hid (∀W,Below W0.heap.size W0 W→Calls Tryz.prog 14 #[] W fun e w'=>e = .returned (.bool true)∧Below W.heap.size W w'):=fun W hW=>zCq W (ht.below (HB.out W hW))
 have HQ:Hid (∀W,Below W0.heap.size W0 W→W.cell? ⟨qb,0,none⟩=some (.string q.1)∧W.cell? ⟨qb,1,none⟩=some (.int .i64 q.2.1)∧W.cell? ⟨qb,2,none⟩=some (.int .i64 q.2.2)):=fun W hW=>by
  have:=(hW.block qb (Array.getElem?_eq_some_iff.1 hn0).1).trans hn0;exact⟨by simp[World.cell?,this],by simp[World.cell?,this],by simp[World.cell?,this]⟩
 obtain⟨vd,vc,hv⟩:=h.form;obtain⟨zd,zc,hzv⟩:=hz.form;by_cases hc:skip Z L∨zAf L≠0
 · have HBG:Hid (Calls Tryz.prog 13 #[v,z] W0 fun e w'=>e = .returned (.tuple #[.pointer none,.slice none 0 0,.bool true])∧Below W0.heap.size W0 w'):=zEl W0 (ht.below hb0) v z L _ Z (h.below hb0) hs hl (hz.below hb0) hc
   subst hv;subst hzv;generalize L.length=n at *;generalize Z.length=m at *;clear h hs hz hzs hq hqs hc ht hl hb0 hn0 HQ;go_enter Tryz.func7,Tryz.ntmps7;(go_upto_region 1 with fail);rw[←hW0];clear hW0 hqb
   go_wp2_with (first
    |(go_at_call 13;refine HBG.out.mono ?_;rintro e w1 ⟨rfl,hb1⟩;have HB1:Hid (Below W0.heap.size W0 w1):=hb1;clear hb1)
    |(go_at_call 14;refine(HAL.out _ HB1.out).mono ?_;rintro e w2 ⟨rfl,hb2⟩;have HB2:Hid (Below W0.heap.size W0 w2):=HB1.out.trans (hb2.mono HB1.out.size);clear hb2))
   go_ret;exact⟨by first|rfl|simp,HB.out _ HB2.out⟩
 · have HBG:Hid (Calls Tryz.prog 13 #[v,z] W0 fun e w'=>∃db ad n cap,e = .returned (.tuple #[.pointer (some ⟨db,0,none⟩),.slice ad n cap,.bool true])∧BSt W0.heap.size w' db (.slice ad n cap) (Z.foldl stepL L)∧Below W0.heap.size W0 w'):=zHn W0 (ht.below hb0) v z L _ hb0.size Z (h.below hb0) hs (hz.below hb0) hzs hc
   obtain⟨M,hM⟩:∃M,Z.foldl stepL L=M:=⟨_,rfl⟩;rw[hM]at HBG;(have HSG:Hid (∀W db u,BSt W0.heap.size W db u M→Calls Tryz.prog 22 #[.pointer (some ⟨db,0,none⟩),.agg #[.string q.1,.int .i64 q.2.1,.int .i64 q.2.2]] W fun e w'=>∃ad n cap,e = .returned (.tuple #[.slice ad n cap,.int .i64 (allC q.1.data.toList q.2.1)])∧MRow w' (.slice ad n cap) (sugL M q)∧(∀k,(Value.slice ad n cap).ownBlock=some k→W.heap.size≤k)∧Below W.heap.size W w'):=fun W db u hb=>hb.sug q hqs);(have HCM:Hid (∀W db u,BSt W0.heap.size W db u M→Calls Tryz.prog 25 #[.pointer (some ⟨db,0,none⟩)] W fun e w'=>e = .returned (.tuple #[])∧CSt W0.heap.size w' db u M∧Upd (fun k=>k=db) W w'∧W0.heap.size≤db∧db<W.heap.size):=fun W db u hb=>comp_bst _ W db u M hb);(have HSM:Hid (∀W db u a b,BSt W0.heap.size W db u M→MRow W a (sugL M q)→MRow W b (sugL M q)→Calls Tryz.prog 24 #[a,b] W fun e w'=>e = .returned (.bool true)∧Below W.heap.size W w'):=fun W db u a b hb k1 k2=>zOg W a b _ k1 k2 (by have:=sug_len hb.built q;omega));(have HSD:Hid (∀W db u,CSt W0.heap.size W db u M→Calls Tryz.prog 16 #[.pointer (some ⟨db,0,none⟩),u] W fun e w'=>e = .returned (.bool true)∧Below W.heap.size W w'):=fun W db u hb=>zGg _ W db u M hb.b);(have HCH:Hid (∀W db u,CSt W0.heap.size W db u M→Calls Tryz.prog 19 #[.pointer (some ⟨db,0,none⟩)] W fun e w'=>e = .returned (.int .i64 ((0:Nat):Int))∧w'=W):=fun W db u hb=>zFf W db none 0 0 hb.c);generalize allC q.1.data.toList q.2.1=C at *;generalize sugL M q=R at *;(have q1:(C==C)=true:=by simp);subst hv;subst hzv;generalize L.length=n at *;generalize Z.length=m at *;clear h hs hz hzs hq hqs hc ht hl hM hb0 hn0;obtain⟨qs,qe,qk⟩:=q;simp only at *;go_enter Tryz.func7,Tryz.ntmps7;(go_upto_region 1 with fail);rw[←hqb,←hW0];clear hW0 hqb
   go_upto_region 5 with(first
    |(go_at_call 13;refine HBG.out.mono ?_;rintro e w1 ⟨db,ad,an,ac,rfl,hs1,hb1⟩;have HS1:Hid (BSt W0.heap.size w1 db (.slice ad an ac) M∧Below W0.heap.size W0 w1):=⟨hs1,hb1⟩;obtain⟨y0,y1,y2⟩:=HQ.out w1 hb1;clear hs1 hb1)
    |(go_at_call 22;refine(HSG.out _ _ _ HS1.out.1).mono ?_;rintro e w2 ⟨a2,n2,c2,rfl,hm2,hn2,hb2⟩;have HS2:Hid (BSt W0.heap.size w2 db (.slice ad an ac) M∧Below W0.heap.size W0 w2∧MRow w2 (.slice a2 n2 c2) R):=⟨HS1.out.1.below hb2,HS1.out.2.trans (hb2.mono HS1.out.2.size),hm2⟩;have HN2:Hid (∀k,(Value.slice a2 n2 c2).ownBlock=some k→w1.heap.size≤k):=hn2;clear hb2 hm2 hn2 y0 y1 y2))
   have HDB:Hid (db<w1.heap.size):=by
    obtain⟨_,_,_,_,_,_,k1,_⟩:=HS1.out.1.ex;exact k1.lt
   go_upto_region 6 with(go_at_call 25;refine(HCM.out _ _ _ HS2.out.1).mono ?_;rintro e w3 ⟨rfl,hs3,hu3,hlo,_⟩;have HS3:Hid (CSt W0.heap.size w3 db (.slice ad an ac) M∧Below W0.heap.size W0 w3∧MRow w3 (.slice a2 n2 c2) R):=⟨hs3,HS2.out.2.1.trans (hu3.below HS2.out.2.1.size (fun k e=>by rw[e];exact hlo)),mrow_upd HS2.out.2.2 hu3 (fun k hk e=>by have h1:=HN2.out k hk;have h2:=HDB.out;omega)⟩;obtain⟨z0,z1,z2⟩:=HQ.out w3 HS3.out.2.1;clear hs3 hu3 hlo)
   go_wp2_with (first
    |(go_at_call 22;refine(HSG.out _ _ _ HS3.out.1.b).mono ?_;rintro e w4 ⟨a4,n4,c4,rfl,hm4,_,hb4⟩;have HS4:Hid (CSt W0.heap.size w4 db (.slice ad an ac) M∧Below W0.heap.size W0 w4∧MRow w4 (.slice a2 n2 c2) R∧MRow w4 (.slice a4 n4 c4) R):=⟨HS3.out.1.below hb4,HS3.out.2.1.trans (hb4.mono HS3.out.2.1.size),HS3.out.2.2.below hb4,hm4⟩;clear hb4 hm4 z0 z1 z2)
    |(go_at_call 14;refine(HAL.out _ HS4.out.2.1).mono ?_;rintro e w5 ⟨rfl,hb5⟩;have HS5:Hid (CSt W0.heap.size w5 db (.slice ad an ac) M∧Below W0.heap.size W0 w5∧MRow w5 (.slice a2 n2 c2) R∧MRow w5 (.slice a4 n4 c4) R):=⟨HS4.out.1.below hb5,HS4.out.2.1.trans (hb5.mono HS4.out.2.1.size),HS4.out.2.2.1.below hb5,HS4.out.2.2.2.below hb5⟩;clear hb5)
    |(go_at_call 24;refine(HSM.out _ _ _ _ _ HS5.out.1.b HS5.out.2.2.1 HS5.out.2.2.2).mono ?_;rintro e w6 ⟨rfl,hb6⟩;have HS6:Hid (CSt W0.heap.size w6 db (.slice ad an ac) M∧Below W0.heap.size W0 w6):=⟨HS5.out.1.below hb6,HS5.out.2.1.trans (hb6.mono HS5.out.2.1.size)⟩;clear hb6)
    |(go_at_call 16;refine(HSD.out _ _ _ HS6.out.1).mono ?_;rintro e w7 ⟨rfl,hb7⟩;have HS7:Hid (CSt W0.heap.size w7 db (.slice ad an ac) M∧Below W0.heap.size W0 w7):=⟨HS6.out.1.below hb7,HS6.out.2.trans (hb7.mono HS6.out.2.size)⟩;clear hb7)
    |(go_at_call 19;refine(HCH.out _ _ _ HS7.out.1).mono ?_;rintro e w8 ⟨rfl,hw8⟩;rw[hw8];clear hw8))
   go_ret;exact⟨by first|rfl|simp,HB.out _ HS7.out.2⟩
