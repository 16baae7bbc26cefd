import Derived.Test.YtobjpljdgieklaaGreatDoorJ51
import Derived.Test.YtobjpljdgieklaaGreatDoorDiAlive
set_option maxRecDepth 100000
set_option maxHeartbeats 8000000
namespace Go.Proofs.YtobjpljdgieklaaGreatDoor
section
open Go.RowKit Go.Shelf Go.Lib Nums Fm Pk Pm Fz Ed Lv
namespace Di
abbrev Oo:=Int×ByteArray×Int
def stepL(L:List Pr)(o:Oo):List Pr:=if o.1=0 then setL L o.2.1 o.2.2 else if o.1=1 then remL L o.2.1 else L
theorem zRx(B:Nat)(w:World)(db lo hi wb:Nat)(v u:Value)(base over:List Pr)(h:DictAt B w db lo hi wb v base over)(hf:over.length≤32)(hr:PRow w u (zAm zAa base over)):
 Calls Tryz.prog 16 #[.pointer (some ⟨db,0,none⟩),u] w fun e w'=>e = .returned (.bool true)∧Below w.heap.size w w':=by
 obtain⟨ad,cap,rfl⟩:=hr.form;have hlen:=h.ok.len;have HLN:Hid (∀W,Below w.heap.size w W→Calls Tryz.prog 35 #[.pointer (some ⟨db,0,none⟩)] W fun e w'=>e = .returned (.int .i64 ((zAm zAa base over).length:Int))∧Below W.heap.size W w'):=fun W hW=>Len_any B W db lo hi wb v base over (h.below hW)
 have HPR:Hid (∀W,Below w.heap.size w W→Calls Tryz.prog 39 #[.pointer (some ⟨db,0,none⟩)] W fun e w'=>∃a n c,e = .returned (.slice a n c)∧PRow w' (.slice a n c) (zAm zAa base over)∧Below W.heap.size W w'):=fun W hW=>(zNt B W db lo hi wb v base over (h.below hW)).mono (by
  rintro e w' ⟨u',rfl,ho,hb⟩;obtain⟨a,c,hu⟩:=ho.shape;subst hu;exact⟨a,_,c,rfl,ho.row,hb⟩)
 have HSM:Hid (∀W a b,PRow W a (zAm zAa base over)→PRow W b (zAm zAa base over)→Calls Tryz.prog 38 #[a,b] W fun e w'=>e = .returned (.bool true)∧Below W.heap.size W w'):=fun W a b k1 k2=>(zR3 W a b _ _ k1 k2 (by omega) (by omega)).mono (by
  rintro e w' ⟨rfl,q,rfl⟩;exact⟨by rw[decide_eq_true rfl],belowN (Below.refl _ _) q⟩)
 obtain⟨vd,vc,hv⟩:=h.own.shape;obtain⟨vn,hvn⟩:∃vn,over.length=vn:=⟨_,rfl⟩;rw[hvn]at hv hf;subst hv;have HCH:Hid (∀W,Below w.heap.size w W→Calls Tryz.prog 19 #[.pointer (some ⟨db,0,none⟩)] W fun e w'=>e = .returned (.int .i64 (vn:Int))∧w'=W):=fun W hW=>zFc W db vd vn vc (h.below hW).cells.2.1
 have HR:Hid (∀W,Below w.heap.size w W→PRow W (.slice ad (zAm zAa base over).length cap) (zAm zAa base over)):=fun W hW=>hr.below hW
 generalize (zAm zAa base over).length=n at *;have hz1:(0:Int)≤(vn:Int):=by omega
 have hz2:(vn:Int)≤32:=by omega
 have hnn:((n:Int)==(n:Int))=true:=by simp
 clear h hr hlen hvn;go_enter Tryz.func16,Tryz.ntmps16
 go_wp2_with (first
  |(go_at_call 35;refine(HLN.out _ (Below.refl _ _)).mono ?_;rintro e w1 ⟨rfl,hb1⟩;have HB1:Hid (Below w.heap.size w w1):=hb1;clear hb1)
  |(go_at_call 39;refine(HPR.out _ HB1.out).mono ?_;rintro e w2 ⟨a2,n2,c2,rfl,hr2,hb2⟩;have HR2:Hid (PRow w2 (.slice a2 n2 c2) (zAm zAa base over)):=hr2;have HB2:Hid (Below w.heap.size w w2):=HB1.out.trans (hb2.mono HB1.out.size);clear hr2 hb2)
  |(go_at_call 38;refine(HSM.out _ _ _ HR2.out (HR.out _ HB2.out)).mono ?_;rintro e w3 ⟨rfl,hb3⟩;have HB3:Hid (Below w.heap.size w w3):=HB2.out.trans (hb3.mono HB2.out.size);clear hb3)
  |(go_at_call 19;refine(HCH.out _ HB3.out).mono ?_;rintro e w4 ⟨rfl,hw4⟩;rw[hw4];clear hw4))
 go_ret;exact⟨by first|rfl|simp,HB3.out⟩
end Di
namespace Di
def skip(Z:List Oo)(L:List Pr):Prop:=400<Z.length∨(300<L.length∧L.length≤4096)
end Di
namespace Di
end Di
end
section
open Go.RowKit Go.Shelf Go.Lib Nums Fm Pk Pm Fz Ed Lv Di
namespace Di
def DL(B:Nat)(W:World)(db:Nat)(L:List Pr):Prop:=∃lo hi wb,DictAt B W db lo hi wb (.slice none 0 0) L []
theorem DL.below{B:Nat}{W W':World}{db:Nat}{L:List Pr}(h:DL B W db L)(hb:Below W.heap.size W W'):DL B W' db L:=by
 obtain⟨lo,hi,wb,h1⟩:=h;exact⟨lo,hi,wb,h1.below hb⟩
end Di
theorem dloads_walk(v:Value)(w:World)(ht:Tabs w)(L:List Pr)(h:PRow w v L)(hs:Sm L)(hl:L.length≤9223372036854775807):
 Calls Tryz.prog 4 #[v] w fun e w'=>e = .returned (.bool true)∧Below w.heap.size w w':=by
 have HAL:Hid (∀W,Below w.heap.size w W→Calls Tryz.prog 14 #[] W fun e w'=>e = .returned (.bool true)∧Below W.heap.size W w'):=fun W hW=>zPf W (ht.below hW)
 have HRB:Hid (∀W,Below w.heap.size w W→Calls Tryz.prog 18 #[v] W fun e w'=>∃base va vn vc,e = .returned (.tuple #[.agg #[.int .i64 base,.slice va vn vc],.int .i64 (zAl L)])∧Below W.heap.size W w'):=fun W hW=>(zMe W v L (h.below hW) hs).mono (by
  rintro e w' ⟨base,vs,b,rfl,hb⟩;obtain⟨va,vn,vc,rfl⟩:=zHn hb.row;exact⟨base,va,vn,vc,rfl,hb.bel⟩)
 obtain⟨vd,vc,hv⟩:=h.form;by_cases hc:zAl L=0
 · have HLD:Hid (Calls Tryz.prog 17 #[v] w fun e w'=>∃db,e = .returned (.tuple #[.pointer (some ⟨db,0,none⟩),.int .i64 0])∧(∀W,Below w'.heap.size w' W→DL w.heap.size W db L)∧Below w.heap.size w w'):=(zLk w.heap.size w (Nat.le_refl _) (TabB.of ht) v L h hs hc).mono (by
    rintro e w' ⟨db,rfl,hl⟩;obtain⟨lo,hi,wb,hd,_⟩:=hl.ex;exact⟨db,rfl,fun W hW=>⟨lo,hi,wb,hd.below hW⟩,hl.bel⟩)
   have HSD:Hid (∀W db,DL w.heap.size W db L→Below w.heap.size w W→Calls Tryz.prog 16 #[.pointer (some ⟨db,0,none⟩),v] W fun e w'=>e = .returned (.bool true)∧Below W.heap.size W w'):=fun W db hd hW=>by
    obtain⟨lo,hi,wb,h1⟩:=hd;have e:=(Dok.start hc).2;exact zRx _ W db lo hi wb _ v L [] h1 (by simp) (by rw[e];exact h.below hW)
   have HCH:Hid (∀W db,DL w.heap.size W db L→Calls Tryz.prog 19 #[.pointer (some ⟨db,0,none⟩)] W fun e w'=>e = .returned (.int .i64 0)∧w'=W):=fun W db hd=>by
    obtain⟨lo,hi,wb,h1⟩:=hd;exact zFc W db none 0 0 h1.cells.2.1
   rw[hc]at HRB;have hn4:=(zAt hc).2.2;subst hv;generalize L.length=n at *;(have h2:(n:Int)≤4096:=by omega);clear h hs hc ht hl;by_cases hn:300<n
   · have h1:(300:Int)<(n:Int):=by omega
     clear HLD HSD HCH HRB;go_enter Tryz.func4,Tryz.ntmps4;go_wp2_with (go_at_call 14;refine(HAL.out _ (Below.refl _ _)).mono ?_;rintro e w2 ⟨rfl,hb2⟩;have HB2:Hid (Below w.heap.size w w2):=hb2;clear hb2);go_ret;exact⟨rfl,HB2.out⟩
   · have h1:¬(300:Int)<(n:Int):=by omega
     go_enter Tryz.func4,Tryz.ntmps4
     go_wp2_with (first
      |(go_at_call 17;refine HLD.out.mono ?_;rintro e w1 ⟨db,rfl,hs1,hb1⟩;have HB1:Hid ((∀W,Below w1.heap.size w1 W→DL w.heap.size W db L)∧Below w.heap.size w w1):=⟨hs1,hb1⟩;clear hb1 hs1)
      |(go_at_call 18;refine(HRB.out _ HB1.out.2).mono ?_;rintro e w2 ⟨base,va,vn,vc2,rfl,hb2⟩;have HB2:Hid (∀o,DL w.heap.size (w2.alloc o) db L∧Below w.heap.size w (w2.alloc o)):=fun o=>⟨HB1.out.1 _ (hb2.alloc hb2.size o),(HB1.out.2.trans (hb2.mono HB1.out.2.size)).alloc (Nat.le_trans HB1.out.2.size hb2.size) o⟩;clear hb2)
      |(go_at_call 14;refine(HAL.out _ (HB2.out _).2).mono ?_;rintro e w3 ⟨rfl,hb3⟩;have HB3:Hid (DL w.heap.size w3 db L∧Below w.heap.size w w3):=⟨(HB2.out _).1.below hb3,(HB2.out _).2.trans (hb3.mono (HB2.out _).2.size)⟩;clear hb3)
      |(go_at_call 16;refine(HSD.out _ _ HB3.out.1 HB3.out.2).mono ?_;rintro e w4 ⟨rfl,hb4⟩;have HB4:Hid (DL w.heap.size w4 db L∧Below w.heap.size w w4):=⟨HB3.out.1.below hb4,HB3.out.2.trans (hb4.mono HB3.out.2.size)⟩;clear hb4)
      |(go_at_call 19;refine(HCH.out _ _ HB4.out.1).mono ?_;rintro e w5 ⟨rfl,hw5⟩;rw[hw5];clear hw5))
     go_ret;exact⟨by first|rfl|simp,HB4.out.2⟩
 · have HLD:Hid (Calls Tryz.prog 17 #[v] w fun e w'=>e = .returned (.tuple #[.pointer none,.int .i64 (zAl L)])∧Below w.heap.size w w'):=Load_no w ht v L h hs hl hc
   obtain⟨C,hC⟩:∃C,zAl L=C:=⟨_,rfl⟩;rw[hC]at HLD HRB hc;(have hcb:(C==0)=false:=by simpa using hc);(have hcc:(C==C)=true:=by simp);subst hv;generalize L.length=n at *;clear h hs hC ht hl;by_cases hn:300<n
   · have h1:(300:Int)<(n:Int):=by omega
     by_cases hn4:n≤4096
     · have h2:(n:Int)≤4096:=by omega
       clear HLD HRB;go_enter Tryz.func4,Tryz.ntmps4;go_wp2_with (go_at_call 14;refine(HAL.out _ (Below.refl _ _)).mono ?_;rintro e w2 ⟨rfl,hb2⟩;have HB2:Hid (Below w.heap.size w w2):=hb2;clear hb2);go_ret;exact⟨rfl,HB2.out⟩
     · have h2:¬(n:Int)≤4096:=by omega
       go_enter Tryz.func4,Tryz.ntmps4
       go_wp2_with (first
        |(go_at_call 17;refine HLD.out.mono ?_;rintro e w1 ⟨rfl,hb1⟩;have HB1:Hid (Below w.heap.size w w1):=hb1;clear hb1)
        |(go_at_call 18;refine(HRB.out _ HB1.out).mono ?_;rintro e w2 ⟨base,va,vn,vc2,rfl,hb2⟩;have HB2:Hid (∀o,Below w.heap.size w (w2.alloc o)):=fun o=>(HB1.out.trans (hb2.mono HB1.out.size)).alloc (Nat.le_trans HB1.out.size hb2.size) o;clear hb2)
        |(go_at_call 14;refine(HAL.out _ (HB2.out _)).mono ?_;rintro e w3 ⟨rfl,hb3⟩;have HB3:Hid (Below w.heap.size w w3):=(HB2.out _).trans (hb3.mono (HB2.out _).size);clear hb3))
       go_ret;exact⟨by first|rfl|simp,HB3.out⟩
   · have h1:¬(300:Int)<(n:Int):=by omega
     go_enter Tryz.func4,Tryz.ntmps4
     go_wp2_with (first
      |(go_at_call 17;refine HLD.out.mono ?_;rintro e w1 ⟨rfl,hb1⟩;have HB1:Hid (Below w.heap.size w w1):=hb1;clear hb1)
      |(go_at_call 18;refine(HRB.out _ HB1.out).mono ?_;rintro e w2 ⟨base,va,vn,vc2,rfl,hb2⟩;have HB2:Hid (∀o,Below w.heap.size w (w2.alloc o)):=fun o=>(HB1.out.trans (hb2.mono HB1.out.size)).alloc (Nat.le_trans HB1.out.size hb2.size) o;clear hb2)
      |(go_at_call 14;refine(HAL.out _ (HB2.out _)).mono ?_;rintro e w3 ⟨rfl,hb3⟩;have HB3:Hid (Below w.heap.size w w3):=(HB2.out _).trans (hb3.mono (HB2.out _).size);clear hb3))
     go_ret;exact⟨by first|rfl|simp,HB3.out⟩
end
