import Derived.Test.YtkdhdehobdfakaaGreatDoorJ50
import Derived.Test.YtkdhdehobdfakaaGreatDoorFRTop
namespace Go.Proofs.YtkdhdehobdfakaaGreatDoor
open Go.RowKit Go.Shelf Go.Lib Nums Fm Pk Pm Fz Ed Lv
set_option maxRecDepth 100000
namespace Di
theorem make_all(w:World)(v:Value)(l:List Pr)(h:PRow w v l)(hC:zAl l=0):
 Calls Tryz.prog 8 #[v] w fun e w'=>∃b0 va vn vc b,e = .returned (.agg #[.int .i64 b0,.slice va vn vc])∧zAf l=(b0,b)∧StRow w.heap.size w' (.slice va vn vc) b∧Below w.heap.size w w':=
 (zO3 w v l h hC fun hl w1 v1 _ hr=>zUq w1 v1 l hC hl hr:zL5 v l w).mono (by
  rintro e w' ⟨b0,vs,b,rfl,hs⟩;obtain⟨va,vn,vc,rfl⟩:=zFq hs.row;exact⟨b0,va,vn,vc,b,rfl,hs.mach,hs.row,hs.bel⟩)
theorem BSt.mach{B:Nat}{W:World}{db:Nat}{u:Value}{L:List Pr}(h:BSt B W db u L):
 Calls Tryz.prog 7 #[.pointer (some ⟨db,0,none⟩)] W fun e w'=>∃b0 va vn vc b,e = .returned (.agg #[.int .i64 b0,.slice va vn vc])∧zAf L=(b0,b)∧StRow W.heap.size w' (.slice va vn vc) b∧Below W.heap.size W w':=by
 obtain⟨lo,hi,wb,v,base,over,h1,h2,rfl,_⟩:=h.ex;exact zP7 B W db lo hi wb v base over h1
end Di
open Di
set_option maxHeartbeats 1000000 in
theorem dmach_walk(v z:Value)(w:World)(ht:Tabs w)(L:List Pr)(h:PRow w v L)(hs:Sm L)(hl:L.length≤9223372036854775807)(Z:List Oo)(hz:ORow w.heap.size w z Z)(hzs:OSm Z):
 Calls Tryz.prog 3 #[v,z] w fun e w'=>e = .returned (.bool true)∧Below w.heap.size w w':=by
 have HAL:Hid (∀W,Below w.heap.size w W→Calls Tryz.prog 5 #[] W fun e w'=>e = .returned (.bool true)∧Below W.heap.size W w'):=fun W hW=>zP2 W (ht.below hW)
 obtain⟨vd,vc,hv⟩:=h.form;obtain⟨zd,zc,hzv⟩:=hz.form;by_cases hc:skip Z L∨zAl L≠0
 · have HBG:Hid (Calls Tryz.prog 4 #[v,z] w fun e w'=>e = .returned (.tuple #[.pointer none,.slice none 0 0,.bool true])∧Below w.heap.size w w'):=zYi w ht v z L _ Z h hs hl hz hc
   subst hv;subst hzv;generalize L.length=n at *;generalize Z.length=m at *;clear h hs hz hzs hc ht hl;go_enter Tryz.func3,Tryz.ntmps3
   go_wp2_with (first
    |(go_at_call 4;refine HBG.out.mono ?_;rintro e w1 ⟨rfl,hb1⟩;have HB1:Hid (Below w.heap.size w w1):=hb1;clear hb1)
    |(go_at_call 5;refine(HAL.out _ HB1.out).mono ?_;rintro e w2 ⟨rfl,hb2⟩;have HB2:Hid (Below w.heap.size w w2):=HB1.out.trans (hb2.mono HB1.out.size);clear hb2))
   go_ret;exact⟨by first|rfl|simp,HB2.out⟩
 · have HBG:Hid (Calls Tryz.prog 4 #[v,z] w fun e w'=>∃db ad n cap,e = .returned (.tuple #[.pointer (some ⟨db,0,none⟩),.slice ad n cap,.bool true])∧BSt w.heap.size w' db (.slice ad n cap) (Z.foldl stepL L)∧Below w.heap.size w w'):=begun_on w ht v z L _ (Nat.le_refl _) Z h hs hz hzs hc
   obtain⟨M,hM⟩:∃M,Z.foldl stepL L=M:=⟨_,rfl⟩;rw[hM]at HBG;(have HMC:Hid (∀W db u,BSt w.heap.size W db u M→Calls Tryz.prog 7 #[.pointer (some ⟨db,0,none⟩)] W fun e w'=>∃b0 va vn vc b,e = .returned (.agg #[.int .i64 b0,.slice va vn vc])∧zAf M=(b0,b)∧StRow W.heap.size w' (.slice va vn vc) b∧Below W.heap.size W w'):=fun W db u hb=>hb.mach);have HMK:Hid (∀W db u,BSt w.heap.size W db u M→Calls Tryz.prog 8 #[u] W fun e w'=>∃b0 va vn vc b,e = .returned (.agg #[.int .i64 b0,.slice va vn vc])∧zAf M=(b0,b)∧StRow W.heap.size w' (.slice va vn vc) b∧Below W.heap.size W w'):=fun W db u hb=>make_all W u M hb.row hb.built
   have HSA:Hid (∀B B' W p va vb b,StRow B W va b→StRow B' W vb b→Calls Tryz.prog 6 #[.agg #[.int .i64 p,va],.agg #[.int .i64 p,vb]] W fun e w'=>e = .returned (.bool true)∧Below W.heap.size W w'):=fun B B' W p va vb b h1 h2=>(same_any B B' W p p va vb b b h1 h2).mono (by
    rintro e w' ⟨rfl,hb⟩;exact⟨by simp,hb⟩)
   subst hv;subst hzv;generalize L.length=n at *;generalize Z.length=m at *;clear h hs hz hzs hc ht hl hM;go_enter Tryz.func3,Tryz.ntmps3
   go_wp2_with (first
    |(go_at_call 4;refine HBG.out.mono ?_;rintro e w1 ⟨db,ad,an,ac,rfl,hs1,hb1⟩;have HS1:Hid (BSt w.heap.size w1 db (.slice ad an ac) M∧Below w.heap.size w w1):=⟨hs1,hb1⟩;clear hs1 hb1)
    |(go_at_call 5;refine(HAL.out _ HS1.out.2).mono ?_;rintro e w4 ⟨rfl,hb4⟩;have HS4:Hid (BSt w.heap.size w4 db (.slice ad an ac) M∧Below w.heap.size w w4):=⟨HS1.out.1.below hb4,HS1.out.2.trans (hb4.mono HS1.out.2.size)⟩;clear hb4)
    |(go_at_call 7;refine(HMC.out _ _ _ HS4.out.1).mono ?_;rintro e w5 ⟨p0,xa,xn,xc,xb,rfl,hm,hr,hb5⟩;have HS5:Hid (BSt w.heap.size w5 db (.slice ad an ac) M∧Below w.heap.size w w5∧zAf M=(p0,xb)∧StRow w4.heap.size w5 (.slice xa xn xc) xb):=⟨HS4.out.1.below hb5,HS4.out.2.trans (hb5.mono HS4.out.2.size),hm,hr⟩;clear hm hr hb5)
    |(go_at_call 8;refine(HMK.out _ _ _ HS5.out.1).mono ?_;rintro e w6 ⟨p1,ya,yn,yc,yb,rfl,hm,hr,hb6⟩;obtain⟨rfl,rfl⟩:p0=p1∧xb=yb:=⟨congrArg Prod.fst (HS5.out.2.2.1.symm.trans hm),congrArg Prod.snd (HS5.out.2.2.1.symm.trans hm)⟩;have HS6:Hid (Below w.heap.size w w6∧StRow w4.heap.size w6 (.slice xa xn xc) xb∧StRow w5.heap.size w6 (.slice ya yn yc) xb):=⟨HS5.out.2.1.trans (hb6.mono HS5.out.2.1.size),HS5.out.2.2.2.below hb6,hr⟩;clear hm hr hb6)
    |(go_at_call 6;refine(HSA.out _ _ _ _ _ _ _ HS6.out.2.1 HS6.out.2.2).mono ?_;rintro e w7 ⟨rfl,hb7⟩;have HB7:Hid (Below w.heap.size w w7):=HS6.out.1.trans (hb7.mono HS6.out.1.size);clear hb7))
   go_ret;exact⟨by first|rfl|simp,HB7.out⟩
