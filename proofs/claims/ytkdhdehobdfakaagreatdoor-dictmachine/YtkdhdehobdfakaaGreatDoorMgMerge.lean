import Derived.Test.YtkdhdehobdfakaaGreatDoorJ44
namespace Go.Proofs.YtkdhdehobdfakaaGreatDoor
open Go.RowKit Go.Shelf Go.Lib Nums Fm Pk Pm Fz Ed Lv
set_option maxRecDepth 100000
namespace Mg
attribute [local go_sem ↓] Mq.exec_load_P Mq.exec_store_P exec_load_P exec_store_P
set_option maxHeartbeats 2000000 in
theorem zY0(w:World)(ht:Tabs w)(u v:Value)(l:List M)(over:List Pr)(ws:ByteArray)(e:Int)(hu:MRow w u l)(hv:PRow w v over)(hs:Sm over)(hm:ws.size≤9223372036854775807)(hl:l.length<274877906944)(ho:over.length<274877906944)(hr:Go.Proofs.YtkdhdehobdfakaaGreatDoor.rightB ws.data.toList e=true)(h1:(zLy l (norm zAa over) ws.data.toList e).length≤1):
 Calls Tryz.prog 33 #[u,v,.string ws,.int .i64 e] w fun x w'=>∃v',x = .returned (.tuple #[v',.int .i64 0])∧MOwn w.heap.size w' v' (zEf zAa (zLy l (norm zAa over) ws.data.toList e))∧Below w.heap.size w w':=by
 obtain⟨ad,cap,rfl⟩:=hu.form;obtain⟨bd,bap,rfl⟩:=hv.form
 have HNW:Hid (Calls Tryz.prog 59 #[.string ws,.int .i64 e] w fun x w'=>∃p,x = .returned (.tuple #[.pointer (some ⟨p,0,none⟩),.int .i64 0])∧Below w.heap.size w w'):=(New_any ws e w ht hm).mono (by
  rintro x w' ⟨v,c,rfl,hb,⟨h,_⟩|⟨_,rfl,p,xs,d,rfl,_⟩⟩
  · rw[hr]at h;cases h
  · exact⟨p,rfl,hb⟩)
 have HT:Hid (Tabs w):=ht;obtain⟨C,hC⟩:∃C,norm zAa over=C:=⟨_,rfl⟩;obtain⟨m,hmn⟩:∃m,C.length=m:=⟨_,rfl⟩;have HCU:Hid (SUp zAa C):=by show SUp zAa C;rw[←hC];exact zEa lessB_sto over
 have HCS:Hid (Sm C):=by show Sm C;rw[←hC];exact Sm.norm hs
 have hml:m<274877906944:=by rw[←hmn,←hC];exact Nat.lt_of_le_of_lt (zHe over) ho
 have HML:Hid (C.length=m):=hmn
 have HNO:Hid (∀W,Below w.heap.size w W→Calls Tryz.prog 57 #[.slice bd over.length bap] W fun x w'=>∃a c,x = .returned (.slice a m c)∧PRow w' (.slice a m c) C∧Below W.heap.size W w'):=fun W hW=>(zSa W _ over (hv.below hW) (by omega)).mono (by
  rintro x w' ⟨v',rfl,hown,hb⟩;rw[hC]at hown;obtain⟨a,c,hsh⟩:=POwn.shape hown;rw[hmn]at hsh;subst hsh;exact⟨a,c,rfl,hown.row,hb⟩)
 obtain⟨n,hn⟩:∃n,l.length=n:=⟨_,rfl⟩;have HN:Hid (l.length=n):=hn;have HU:Hid (MRow w (.slice ad n cap) l):=by show MRow _ _ _;rw[←hn];exact hu
 have HWS:Hid (ws.size≤9223372036854775807):=hm;rw[hC]at h1 ⊢;have H1:Hid ((zLy l C ws.data.toList e).length≤1):=h1;rw[hn]at hl ⊢;clear hu hv hs hm ho hr ht hC hmn hn h1;go_enter Tryz.func33,Tryz.ntmps33
 go_wp2_with (first
  |(go_at_call 59;refine HNW.out.mono ?_;rintro x w1 ⟨p,rfl,hb1⟩;have HB1:Hid (Below w.heap.size w w1):=hb1;clear hb1)
  |(go_at_call 57;refine(HNO.out _ HB1.out).mono ?_;rintro x w2 ⟨a,c,rfl,hrow2,hb2⟩;have HB2:Hid (Below w.heap.size w w2):=HB1.out.trans (hb2.mono HB1.out.size);have HROW2:Hid (PRow w2 (.slice a m c) C):=hrow2;clear hb2 hrow2))
 have HU2:Hid (MRow w2 (.slice ad n cap) l):=HU.out.below HB2.out;clear HU
 go_loopg [13,15,33] n (fun gm s13 s15 s33 wr=>∃(k:Nat),s33 = .int .i64 k∧k≤n∧n-k≤gm∧Hid (MOwn w2.heap.size wr s13 ((l.take k).filter (fOf C)))∧Hid (Below w2.heap.size w2 wr))
 case atStart=>exact⟨0,rfl,Nat.zero_le _,by omega,GOwn.nil _ _ _ _,Below.refl _ _⟩
 case round=>
  obtain⟨k,rfl,hk,hg,HO,HB⟩:=hrel;obtain⟨fd,fc,hsh⟩:=zH2 HO.out;obtain⟨fn,hfn⟩:∃fn,((l.take k).filter (fOf C)).length=fn:=⟨_,rfl⟩;rw[hfn]at hsh;subst hsh;have HFN:Hid (fn≤k):=by
   show fn≤k;rw[←hfn];exact Nat.le_trans (List.length_filter_le _ _) (List.length_take_le _ _)
  by_cases hlt:k<n
  · have hltz:(k:Int)<(n:Int):=by omega
    obtain⟨x,hx⟩:∃x,l[k]?=some x:=⟨l[k]'(by have:=HN.out;omega),List.getElem?_eq_getElem _⟩;obtain⟨b,off,hbo,hb,hcell⟩:=mrow_at HU2.out (by have:=HN.out;omega);subst hbo;have hld:=((hcell k x hx).below hb HB.out).load;obtain⟨W,hst,hbW,h3,hlW⟩:=box_M wr x;have HBW:Hid (Below w2.heap.size w2 W):=HB.out.trans (hbW.mono HB.out.size);have HOW:Hid (MOwn w2.heap.size W (.slice fd fn fc) ((l.take k).filter (fOf C))):=zDf HO.out hbW;(have HTW:Hid (∀V,Below W.heap.size W V→ThreeAt V wr.heap.size 0 x):=fun V hV=>h3.below hlW hV);have hc0:=h3.c0;have HCH:Hid (Calls Tryz.prog 64 #[.slice a m c,.string x.1] W fun e w'=>e = .returned (.bool (hasW C x.1))∧Below W.heap.size W w'):=zPs W _ C x.1 (HROW2.out.below HBW.out) HCU.out (by have:=HML.out;omega);have HTK:Hid ((l.take (k+1)).filter (fOf C)=(l.take k).filter (fOf C)++(if hasW C x.1 then []else [x])):=zWs C hx;obtain⟨hw,hhw⟩:∃hw,hasW C x.1=hw:=⟨_,rfl⟩;rw[hhw]at HCH HTK;clear hcell hx hbW h3 hhw;cases hw
    · go_wp2_with (first
       |(go_at_call 64;refine HCH.out.mono ?_;rintro e w3 ⟨rfl,hb3⟩;have HB3:Hid (Below w2.heap.size w2 w3):=HBW.out.trans (hb3.mono HBW.out.size);have HO3:Hid (MOwn w2.heap.size w3 (.slice fd fn fc) ((l.take k).filter (fOf C))):=zDf HOW.out hb3;have hld3:=(HTW.out w3 hb3).load;clear hb3)
       |(at_builtin;refine zC4 rtyM (by rfl) _ _ [.string x.1,.int .i64 x.2.1,.int .i64 x.2.2] _ rfl w2.heap.size _ _ _ _ rfl HO3.out rfl rfl (zIr x) (by have:=HFN.out;rw[List.length_map,hfn];omega) HB3.out.size ?_))
      intro v4 w4 hr4 hb4 _;have HO4:Hid (MOwn w2.heap.size w4 v4 ((l.take (k+1)).filter (fOf C))):=by
       show MOwn _ _ _ _;rw[HTK.out];exact zQ2 hr4
      have HB4:Hid (Below w2.heap.size w2 w4):=HB3.out.trans hb4;clear hr4 hb4;go_wp2_with fail;go_roundg (n-(k+1));(case measure=>omega);case rel=>exact⟨k+1,by go_num,by omega,Nat.le_refl _,HO4,HB4⟩
    · go_wp2_with (go_at_call 64;refine HCH.out.mono ?_;rintro e w3 ⟨rfl,hb3⟩;have HB3:Hid (Below w2.heap.size w2 w3):=HBW.out.trans (hb3.mono HBW.out.size);have HO3:Hid (MOwn w2.heap.size w3 (.slice fd fn fc) ((l.take k).filter (fOf C))):=zDf HOW.out hb3;clear hb3)
      go_roundg (n-(k+1));(case measure=>omega);case rel=>exact⟨k+1,by go_num,by omega,Nat.le_refl _,by show MOwn _ _ _ _;rw[HTK.out];simpa using HO3.out,HB3⟩
  · have hltz:¬(k:Int)<(n:Int):=by omega
    have HE:Hid (l.take k=l):=List.take_of_length_le (by have:=HN.out;omega);rw[HE.out]at HO hfn;(have hfz:fn<274877906944:=by have:=HFN.out;omega);have HFL:Hid ((l.filter (fOf C)).length=fn):=hfn;have HMW:Hid (PRow wr (.slice a m c) C):=HROW2.out.below HB.out;clear HE hfn HFN hk hg;obtain⟨wo,hwo⟩:∃wo,wo=wr:=⟨_,rfl⟩;subst hwo;go_wp2_with fail
    go_loopg [13,17,18,19,49] m (fun gm s13 s17 s18 s19 s49 wr=>∃(j:Nat),s49 = .int .i64 j∧j≤m∧m-j≤gm∧Hid (MOwn w2.heap.size wr s13 ((l.filter (fOf C))++(C.take j).filterMap (mtch ws.data.toList e)))∧Hid (Below w2.heap.size w2 wr))
    case atStart=>exact⟨0,rfl,Nat.zero_le _,by omega,by show MOwn _ _ _ _;simpa using HO.out,HB⟩
    case round=>
     obtain⟨j,hs49,hj,hg,HO2,HBq⟩:=hrel;subst hs49;obtain⟨gd,gc,hsh⟩:=zH2 HO2.out;obtain⟨gn,hgn⟩:∃gn,((l.filter (fOf C))++(C.take j).filterMap (mtch ws.data.toList e)).length=gn:=⟨_,rfl⟩;rw[hgn]at hsh;subst hsh;have HGN:Hid (gn≤fn+j∧((l.filter (fOf C))++(C.take j).filterMap (mtch ws.data.toList e)).length=gn):=by
      refine⟨?_,hgn⟩;rw[←hgn,List.length_append,HFL.out];have h1:=List.length_filterMap_le (mtch ws.data.toList e) (C.take j);have h2:(C.take j).length≤j:=List.length_take_le _ _;omega
     clear hgn;by_cases hlt:j<m
     · have hltz:(j:Int)<(m:Int):=by omega
       obtain⟨p,hp⟩:∃p,C[j]?=some p:=⟨C[j]'(by have:=HML.out;omega),List.getElem?_eq_getElem _⟩;obtain⟨b,off,hbo,hb,hcell⟩:=HROW2.out.at (by omega);subst hbo;have hld:=zQh ((hcell j p hp).below hb HBq.out);obtain⟨W,hst,hbW,h2,hlW⟩:=box_P wr p;have HBW:Hid (Below w2.heap.size w2 W):=HBq.out.trans (hbW.mono HBq.out.size);have HOW:Hid (MOwn w2.heap.size W (.slice gd gn gc) (l.filter (fOf C)++(C.take j).filterMap (mtch ws.data.toList e))):=zDf HO2.out hbW;have hld2:=zQh h2;(have HMA:Calls Tryz.prog 65 #[.agg #[.string p.1,.int .i64 p.2],.string ws,.int .i64 e] W fun x w'=>zSb W w' (mtch ws.data.toList e p) x:=zV3 p ws _ rfl e W (HT.out.below (HB2.out.trans (HBW.out.mono HB2.out.size))) (HCS.out p (List.mem_of_getElem? hp)) HWS.out);have HTK:Hid ((C.take (j+1)).filterMap (mtch ws.data.toList e)=(C.take j).filterMap (mtch ws.data.toList e)++(mtch ws.data.toList e p).toList):=put_snoc hp;clear hcell hp hbW h2;cases hmt:mtch ws.data.toList e p with
       |none=>
        rw[hmt]at HMA HTK
        have HMA:Hid (Calls Tryz.prog 65 #[.agg #[.string p.1,.int .i64 p.2],.string ws,.int .i64 e] W fun x w'=>(∃m0,x = .returned (.tuple #[Mq.valP m0,.bool false]))∧Below W.heap.size W w'):=HMA.mono (by
         rintro x w' ⟨hb,⟨_,m0,rfl⟩|⟨m0,h,_⟩⟩
         · exact⟨⟨m0,rfl⟩,hb⟩
         · cases h)
        clear hmt;go_wp2_with (go_at_call 65;refine HMA.out.mono ?_;rintro x w3 ⟨⟨m0,rfl⟩,hb3⟩;obtain⟨W4,hst4,hb4,h4,hl4⟩:=box_M w3 m0;have hst5:Mq.storeP Tryz.prog (.pointer (some ⟨w3.heap.size,0,none⟩)) (Mq.valP m0) (w3.alloc (.cells #[.string ⟨#[]⟩,.int .i64 0,.int .i64 0] 52)) = .ok () W4:=hst4;have HB4:Hid (Below w2.heap.size w2 W4):=HBW.out.trans ((hb3.trans (hb4.mono hb3.size)).mono HBW.out.size);have HO4:Hid (MOwn w2.heap.size W4 (.slice gd gn gc) (l.filter (fOf C)++(C.take j).filterMap (mtch ws.data.toList e))):=zDf HOW.out (hb3.trans (hb4.mono hb3.size));clear hb3 hb4 h4 hl4 hst4);go_roundg (m-(j+1));(case measure=>omega);case rel=>exact⟨j+1,by go_num,by omega,Nat.le_refl _,by show MOwn _ _ _ _;rw[HTK.out];simpa using HO4.out,HB4⟩
       |some m1=>
        rw[hmt]at HMA HTK
        have HMA:Hid (Calls Tryz.prog 65 #[.agg #[.string p.1,.int .i64 p.2],.string ws,.int .i64 e] W fun x w'=>x = .returned (.tuple #[Mq.valP m1,.bool true])∧Below W.heap.size W w'):=HMA.mono (by
         rintro x w' ⟨hb,⟨h,_⟩|⟨m0,h,rfl⟩⟩
         · cases h
         · cases h;exact⟨rfl,hb⟩)
        clear hmt
        go_wp2_with (first
         |(go_at_call 65;refine HMA.out.mono ?_;rintro x w3 ⟨rfl,hb3⟩;obtain⟨W4,hst4,hb4,h4,hl4⟩:=box_M w3 m1;have hst5:Mq.storeP Tryz.prog (.pointer (some ⟨w3.heap.size,0,none⟩)) (Mq.valP m1) (w3.alloc (.cells #[.string ⟨#[]⟩,.int .i64 0,.int .i64 0] 52)) = .ok () W4:=hst4;have HB4:Hid (Below w2.heap.size w2 W4):=HBW.out.trans ((hb3.trans (hb4.mono hb3.size)).mono HBW.out.size);have HO4:Hid (MOwn w2.heap.size W4 (.slice gd gn gc) (l.filter (fOf C)++(C.take j).filterMap (mtch ws.data.toList e))):=zDf HOW.out (hb3.trans (hb4.mono hb3.size));have hld4:=h4.load;clear hb3 hb4 h4 hl4 hst4)
         |(at_builtin;refine zC4 rtyM (by rfl) _ _ [.string m1.1,.int .i64 m1.2.1,.int .i64 m1.2.2] _ rfl w2.heap.size _ _ _ _ rfl HO4.out rfl rfl (zIr m1) (by have:=HGN.out;rw[List.length_map,this.2];omega) HB4.out.size ?_))
        intro v5 w5 hr5 hb5 _;have HO5:Hid (MOwn w2.heap.size w5 v5 (l.filter (fOf C)++(C.take (j+1)).filterMap (mtch ws.data.toList e))):=by
         show MOwn _ _ _ _;rw[HTK.out,←List.append_assoc];refine zQ2 ?_;rw[List.map_append,List.append_assoc];exact hr5
        have HB5:Hid (Below w2.heap.size w2 w5):=HB4.out.trans hb5;clear hr5 hb5;go_wp2_with fail;go_roundg (m-(j+1));(case measure=>omega);case rel=>exact⟨j+1,by go_num,by omega,Nat.le_refl _,HO5,HB5⟩
     · have hltz:¬(j:Int)<(m:Int):=by omega
       have HE:Hid (C.take j=C):=List.take_of_length_le (by have:=HML.out;omega);rw[HE.out]at HO2 HGN;have HSO:Hid (Calls Tryz.prog 66 #[.slice gd gn gc,.func (.func 67) #[] #[]] wr fun x w'=>x = .returned (.tuple #[])∧MOwn w2.heap.size w' (.slice gd gn gc) (zEf zAa (zLy l C ws.data.toList e))∧Below w2.heap.size wr w'):=zUv (l:=zLy l C ws.data.toList e) HO2.out H1.out;clear HE HGN HO2 hj hg;go_wp2_with (go_at_call 66;refine HSO.out.mono ?_;rintro x w6 ⟨rfl,ho6,hb6⟩);go_ret2;exact⟨_,rfl,own_mono ho6 HB2.out.size,HB2.out.trans ((HBq.out.trans hb6).mono HB2.out.size)⟩
