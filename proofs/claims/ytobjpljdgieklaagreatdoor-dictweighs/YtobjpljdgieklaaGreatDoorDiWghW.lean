import Derived.Test.YtobjpljdgieklaaGreatDoorJ52
namespace Go.Proofs.YtobjpljdgieklaaGreatDoor
open Go.RowKit Go.Shelf Go.Lib Nums Fm Pk Pm Fz Ed Lv Di
set_option maxRecDepth 100000
set_option maxHeartbeats 1000000 in
theorem dweighs_walk(v z:Value)(s:ByteArray)(w:World)(ht:Tabs w)(L:List Pr)(h:PRow w v L)(hs:Sm L)(hl:L.length≤9223372036854775807)(Z:List Oo)(hz:ORow w.heap.size w z Z)(hzs:OSm Z)(hsz:s.size≤maxLen):
 Calls Tryz.prog 5 #[v,z,.string s] w fun e w'=>e = .returned (.bool true)∧Below w.heap.size w w':=by
 have hsz:s.size≤9223372036854775807:=by unfold maxLen at hsz;omega
 have HAL:Hid (∀W,Below w.heap.size w W→Calls Tryz.prog 14 #[] W fun e w'=>e = .returned (.bool true)∧Below W.heap.size W w'):=fun W hW=>zCq W (ht.below hW)
 obtain⟨vd,vc,hv⟩:=h.form;obtain⟨zd,zc,hzv⟩:=hz.form;by_cases hc:skip Z L∨zAf L≠0
 · have HBG:Hid (Calls Tryz.prog 13 #[v,z] w fun e w'=>e = .returned (.tuple #[.pointer none,.slice none 0 0,.bool true])∧Below w.heap.size w w'):=zEl w ht v z L _ Z h hs hl hz hc
   subst hv;subst hzv;generalize L.length=n at *;generalize Z.length=m at *;clear h hs hz hzs hsz hc ht hl;go_enter Tryz.func5,Tryz.ntmps5
   go_wp2_with (first
    |(go_at_call 13;refine HBG.out.mono ?_;rintro e w1 ⟨rfl,hb1⟩;have HB1:Hid (Below w.heap.size w w1):=hb1;clear hb1)
    |(go_at_call 14;refine(HAL.out _ HB1.out).mono ?_;rintro e w2 ⟨rfl,hb2⟩;have HB2:Hid (Below w.heap.size w w2):=HB1.out.trans (hb2.mono HB1.out.size);clear hb2))
   go_ret;exact⟨by first|rfl|simp,HB2.out⟩
 · have HBG:Hid (Calls Tryz.prog 13 #[v,z] w fun e w'=>∃db ad n cap,e = .returned (.tuple #[.pointer (some ⟨db,0,none⟩),.slice ad n cap,.bool true])∧BSt w.heap.size w' db (.slice ad n cap) (Z.foldl stepL L)∧Below w.heap.size w w'):=zHn w ht v z L _ (Nat.le_refl _) Z h hs hz hzs hc
   obtain⟨M,hM⟩:∃M,Z.foldl stepL L=M:=⟨_,rfl⟩;rw[hM]at HBG;(have HW:Hid (∀W db u,BSt w.heap.size W db u M→Calls Tryz.prog 20 #[.pointer (some ⟨db,0,none⟩),.string s] W fun e w'=>e = .returned (.tuple #[.int .i64 ((Pm.find M s).getD 0),.bool (Pm.find M s).isSome])∧Below W.heap.size W w'):=fun W db u hb=>hb.find s hsz);(have HF:Hid (∀W db u,BSt w.heap.size W db u M→Calls Tryz.prog 21 #[u,.string s] W fun e w'=>e = .returned (.tuple #[.int .i64 ((Pm.find M s).getD 0),.bool (Pm.find M s).isSome])∧w'=W):=fun W db u hb=>hb.rfind s);generalize (Pm.find M s).getD 0=fx at *;generalize (Pm.find M s).isSome=fb at *;(have q1:(fx==fx)=true:=by simp);(have q2:(fb==fb)=true:=by simp);subst hv;subst hzv;generalize L.length=n at *;generalize Z.length=m at *;clear h hs hz hzs hsz hc ht hl hM;go_enter Tryz.func5,Tryz.ntmps5
   go_wp2_with (first
    |(go_at_call 13;refine HBG.out.mono ?_;rintro e w1 ⟨db,ad,an,ac,rfl,hs1,hb1⟩;have HS1:Hid (BSt w.heap.size w1 db (.slice ad an ac) M∧Below w.heap.size w w1):=⟨hs1,hb1⟩;clear hs1 hb1)
    |(go_at_call 20;refine(HW.out _ _ _ HS1.out.1).mono ?_;rintro e w2 ⟨rfl,hb2⟩;have HS2:Hid (BSt w.heap.size w2 db (.slice ad an ac) M∧Below w.heap.size w w2):=⟨HS1.out.1.below hb2,HS1.out.2.trans (hb2.mono HS1.out.2.size)⟩;clear hb2)
    |(go_at_call 21;refine(HF.out _ _ _ HS2.out.1).mono ?_;rintro e w3 ⟨rfl,hw3⟩;rw[hw3];clear hw3)
    |(go_at_call 14;refine(HAL.out _ HS2.out.2).mono ?_;rintro e w4 ⟨rfl,hb4⟩;have HB4:Hid (Below w.heap.size w w4):=HS2.out.2.trans (hb4.mono HS2.out.2.size);clear hb4))
   go_ret;exact⟨by first|rfl|simp,HB4.out⟩
