import Derived.Test.YtobjpljdgieklaaGreatDoorMgBox
import Derived.Test.YtobjpljdgieklaaGreatDoorJ48
set_option maxRecDepth 100000
set_option maxHeartbeats 8000000
namespace Go.Proofs.YtobjpljdgieklaaGreatDoor
section
open Go.RowKit Go.Shelf Go.Lib Nums Fm Pk Pm Fz Ed Lv
namespace Mg
attribute [local go_sem ↓] Mq.exec_load_P Mq.exec_store_P exec_load_P exec_store_P
theorem zXt(w:World)(ht:Tabs w)(u v:Value)(l:List M)(over:List Pr)(ws:ByteArray)(e:Int)(hu:MRow w u l)(hv:PRow w v over)(hs:Sm over)(hm:ws.size≤9223372036854775807)(hl:l.length<274877906944)(ho:over.length<274877906944)(hr:Go.Proofs.YtobjpljdgieklaaGreatDoor.rightB ws.data.toList e=true):
 Calls Tryz.prog 47 #[u,v,.string ws,.int .i64 e] w fun x w'=>∃v',x = .returned (.tuple #[v',.int .i64 0])∧MOwn w.heap.size w' v' (zFt zAa (zPe l (norm zAa over) ws.data.toList e))∧Below w.heap.size w w':=by
 obtain⟨ad,cap,rfl⟩:=hu.form;obtain⟨bd,bap,rfl⟩:=hv.form
 have HNW:Hid (Calls Tryz.prog 73 #[.string ws,.int .i64 e] w fun x w'=>∃p,x = .returned (.tuple #[.pointer (some ⟨p,0,none⟩),.int .i64 0])∧Below w.heap.size w w'):=(New_any ws e w ht hm).mono (by
  rintro x w' ⟨v,c,rfl,hb,⟨h,_⟩|⟨_,rfl,p,xs,d,rfl,_⟩⟩
  · rw[hr]at h;cases h
  · exact⟨p,rfl,hb⟩)
 have HT:Hid (Tabs w):=ht;obtain⟨C,hC⟩:∃C,norm zAa over=C:=⟨_,rfl⟩;obtain⟨m,hmn⟩:∃m,C.length=m:=⟨_,rfl⟩;have HCU:Hid (SUp zAa C):=by show SUp zAa C;rw[←hC];exact zD6 lessB_sto over
 have HCS:Hid (Sm C):=by show Sm C;rw[←hC];exact Sm.norm hs
 have hml:m<274877906944:=by rw[←hmn,←hC];exact Nat.lt_of_le_of_lt (zG1 over) ho
 have HML:Hid (C.length=m):=hmn
 have HNO:Hid (∀W,Below w.heap.size w W→Calls Tryz.prog 77 #[.slice bd over.length bap] W fun x w'=>∃a c,x = .returned (.slice a m c)∧PRow w' (.slice a m c) C∧Below W.heap.size W w'):=fun W hW=>(zRj W _ over (hv.below hW) (by omega)).mono (by
  rintro x w' ⟨v',rfl,hown,hb⟩;rw[hC]at hown;obtain⟨a,c,hsh⟩:=POwn.shape hown;rw[hmn]at hsh;subst hsh;exact⟨a,c,rfl,hown.row,hb⟩)
 obtain⟨n,hn⟩:∃n,l.length=n:=⟨_,rfl⟩;have HN:Hid (l.length=n):=hn;have HU:Hid (MRow w (.slice ad n cap) l):=by show MRow _ _ _;rw[←hn];exact hu
 have HWS:Hid (ws.size≤9223372036854775807):=hm;rw[hC];rw[hn]at hl ⊢;clear hu hv hs hm ho hr ht hC hmn hn;go_enter Tryz.func47,Tryz.ntmps47
 go_wp2_with (first
  |(go_at_call 73;refine HNW.out.mono ?_;rintro x w1 ⟨p,rfl,hb1⟩;have HB1:Hid (Below w.heap.size w w1):=hb1;clear hb1)
  |(go_at_call 77;refine(HNO.out _ HB1.out).mono ?_;rintro x w2 ⟨a,c,rfl,hrow2,hb2⟩;have HB2:Hid (Below w.heap.size w w2):=HB1.out.trans (hb2.mono HB1.out.size);have HROW2:Hid (PRow w2 (.slice a m c) C):=hrow2;clear hb2 hrow2))
 have HU2:Hid (MRow w2 (.slice ad n cap) l):=HU.out.below HB2.out;clear HU
 go_loopg [13,15,33] n (fun gm s13 s15 s33 wr=>∃(k:Nat),s33 = .int .i64 k∧k≤n∧n-k≤gm∧Hid (MOwn w2.heap.size wr s13 ((l.take k).filter (fOf C)))∧Hid (Below w2.heap.size w2 wr))
 case atStart=>exact⟨0,rfl,Nat.zero_le _,by omega,GOwn.nil _ _ _ _,Below.refl _ _⟩
 case round=>
  obtain⟨k,rfl,hk,hg,HO,HB⟩:=hrel;obtain⟨fd,fc,hsh⟩:=zHs HO.out;obtain⟨fn,hfn⟩:∃fn,((l.take k).filter (fOf C)).length=fn:=⟨_,rfl⟩;rw[hfn]at hsh;subst hsh;have HFN:Hid (fn≤k):=by
   show fn≤k;rw[←hfn];exact Nat.le_trans (List.length_filter_le _ _) (List.length_take_le _ _)
  by_cases hlt:k<n
  · have hltz:(k:Int)<(n:Int):=by omega
    obtain⟨x,hx⟩:∃x,l[k]?=some x:=⟨l[k]'(by have:=HN.out;omega),List.getElem?_eq_getElem _⟩;obtain⟨b,off,hbo,hb,hcell⟩:=mrow_at HU2.out (by have:=HN.out;omega);subst hbo;have hld:=((hcell k x hx).below hb HB.out).load;obtain⟨W,hst,hbW,h3,hlW⟩:=box_M wr x;have HBW:Hid (Below w2.heap.size w2 W):=HB.out.trans (hbW.mono HB.out.size);have HOW:Hid (MOwn w2.heap.size W (.slice fd fn fc) ((l.take k).filter (fOf C))):=zDd HO.out hbW;(have HTW:Hid (∀V,Below W.heap.size W V→ThreeAt V wr.heap.size 0 x):=fun V hV=>h3.below hlW hV);have hc0:=h3.c0;have HCH:Hid (Calls Tryz.prog 78 #[.slice a m c,.string x.1] W fun e w'=>e = .returned (.bool (hasW C x.1))∧Below W.heap.size W w'):=zO3 W _ C x.1 (HROW2.out.below HBW.out) HCU.out (by have:=HML.out;omega);have HTK:Hid ((l.take (k+1)).filter (fOf C)=(l.take k).filter (fOf C)++(if hasW C x.1 then []else [x])):=zVq C hx;obtain⟨hw,hhw⟩:∃hw,hasW C x.1=hw:=⟨_,rfl⟩;rw[hhw]at HCH HTK;clear hcell hx hbW h3 hhw;cases hw
    · go_wp2_with (first
       |(go_at_call 78;refine HCH.out.mono ?_;rintro e w3 ⟨rfl,hb3⟩;have HB3:Hid (Below w2.heap.size w2 w3):=HBW.out.trans (hb3.mono HBW.out.size);have HO3:Hid (MOwn w2.heap.size w3 (.slice fd fn fc) ((l.take k).filter (fOf C))):=zDd HOW.out hb3;have hld3:=(HTW.out w3 hb3).load;clear hb3)
       |(at_builtin;refine zC3 rtyM (by rfl) _ _ [.string x.1,.int .i64 x.2.1,.int .i64 x.2.2] _ rfl w2.heap.size _ _ _ _ rfl HO3.out rfl rfl (zId x) (by have:=HFN.out;rw[List.length_map,hfn];omega) HB3.out.size ?_))
      intro v4 w4 hr4 hb4 _;have HO4:Hid (MOwn w2.heap.size w4 v4 ((l.take (k+1)).filter (fOf C))):=by
       show MOwn _ _ _ _;rw[HTK.out];exact zQe hr4
      have HB4:Hid (Below w2.heap.size w2 w4):=HB3.out.trans hb4;clear hr4 hb4;go_wp2_with fail;go_roundg (n-(k+1));(case measure=>omega);case rel=>exact⟨k+1,by go_num,by omega,Nat.le_refl _,HO4,HB4⟩
    · go_wp2_with (go_at_call 78;refine HCH.out.mono ?_;rintro e w3 ⟨rfl,hb3⟩;have HB3:Hid (Below w2.heap.size w2 w3):=HBW.out.trans (hb3.mono HBW.out.size);have HO3:Hid (MOwn w2.heap.size w3 (.slice fd fn fc) ((l.take k).filter (fOf C))):=zDd HOW.out hb3;clear hb3)
      go_roundg (n-(k+1));(case measure=>omega);case rel=>exact⟨k+1,by go_num,by omega,Nat.le_refl _,by show MOwn _ _ _ _;rw[HTK.out];simpa using HO3.out,HB3⟩
  · have hltz:¬(k:Int)<(n:Int):=by omega
    have HE:Hid (l.take k=l):=List.take_of_length_le (by have:=HN.out;omega);rw[HE.out]at HO hfn;(have hfz:fn<274877906944:=by have:=HFN.out;omega);have HFL:Hid ((l.filter (fOf C)).length=fn):=hfn;have HMW:Hid (PRow wr (.slice a m c) C):=HROW2.out.below HB.out;clear HE hfn HFN hk hg;obtain⟨wo,hwo⟩:∃wo,wo=wr:=⟨_,rfl⟩;subst hwo;go_wp2_with fail
    go_loopg [13,17,18,19,49] m (fun gm s13 s17 s18 s19 s49 wr=>∃(j:Nat),s49 = .int .i64 j∧j≤m∧m-j≤gm∧Hid (MOwn w2.heap.size wr s13 ((l.filter (fOf C))++(C.take j).filterMap (mtch ws.data.toList e)))∧Hid (Below w2.heap.size w2 wr))
    case atStart=>exact⟨0,rfl,Nat.zero_le _,by omega,by show MOwn _ _ _ _;simpa using HO.out,HB⟩
    case round=>
     obtain⟨j,hs49,hj,hg,HO2,HBq⟩:=hrel;subst hs49;obtain⟨gd,gc,hsh⟩:=zHs HO2.out;obtain⟨gn,hgn⟩:∃gn,((l.filter (fOf C))++(C.take j).filterMap (mtch ws.data.toList e)).length=gn:=⟨_,rfl⟩;rw[hgn]at hsh;subst hsh;have HGN:Hid (gn≤fn+j∧((l.filter (fOf C))++(C.take j).filterMap (mtch ws.data.toList e)).length=gn):=by
      refine⟨?_,hgn⟩;rw[←hgn,List.length_append,HFL.out];have h1:=List.length_filterMap_le (mtch ws.data.toList e) (C.take j);have h2:(C.take j).length≤j:=List.length_take_le _ _;omega
     clear hgn;by_cases hlt:j<m
     · have hltz:(j:Int)<(m:Int):=by omega
       obtain⟨p,hp⟩:∃p,C[j]?=some p:=⟨C[j]'(by have:=HML.out;omega),List.getElem?_eq_getElem _⟩;obtain⟨b,off,hbo,hb,hcell⟩:=HROW2.out.at (by omega);subst hbo;have hld:=zPu ((hcell j p hp).below hb HBq.out);obtain⟨W,hst,hbW,h2,hlW⟩:=box_P wr p;have HBW:Hid (Below w2.heap.size w2 W):=HBq.out.trans (hbW.mono HBq.out.size);have HOW:Hid (MOwn w2.heap.size W (.slice gd gn gc) (l.filter (fOf C)++(C.take j).filterMap (mtch ws.data.toList e))):=zDd HO2.out hbW;have hld2:=zPu h2;(have HMA:Calls Tryz.prog 79 #[.agg #[.string p.1,.int .i64 p.2],.string ws,.int .i64 e] W fun x w'=>zRk W w' (mtch ws.data.toList e p) x:=zU2 p ws _ rfl e W (HT.out.below (HB2.out.trans (HBW.out.mono HB2.out.size))) (HCS.out p (List.mem_of_getElem? hp)) HWS.out);have HTK:Hid ((C.take (j+1)).filterMap (mtch ws.data.toList e)=(C.take j).filterMap (mtch ws.data.toList e)++(mtch ws.data.toList e p).toList):=put_snoc hp;clear hcell hp hbW h2;cases hmt:mtch ws.data.toList e p with
       |none=>
        rw[hmt]at HMA HTK
        have HMA:Hid (Calls Tryz.prog 79 #[.agg #[.string p.1,.int .i64 p.2],.string ws,.int .i64 e] W fun x w'=>(∃m0,x = .returned (.tuple #[Mq.valP m0,.bool false]))∧Below W.heap.size W w'):=HMA.mono (by
         rintro x w' ⟨hb,⟨_,m0,rfl⟩|⟨m0,h,_⟩⟩
         · exact⟨⟨m0,rfl⟩,hb⟩
         · cases h)
        clear hmt;go_wp2_with (go_at_call 79;refine HMA.out.mono ?_;rintro x w3 ⟨⟨m0,rfl⟩,hb3⟩;obtain⟨W4,hst4,hb4,h4,hl4⟩:=box_M w3 m0;have hst5:Mq.storeP Tryz.prog (.pointer (some ⟨w3.heap.size,0,none⟩)) (Mq.valP m0) (w3.alloc (.cells #[.string ⟨#[]⟩,.int .i64 0,.int .i64 0] 74)) = .ok () W4:=hst4;have HB4:Hid (Below w2.heap.size w2 W4):=HBW.out.trans ((hb3.trans (hb4.mono hb3.size)).mono HBW.out.size);have HO4:Hid (MOwn w2.heap.size W4 (.slice gd gn gc) (l.filter (fOf C)++(C.take j).filterMap (mtch ws.data.toList e))):=zDd HOW.out (hb3.trans (hb4.mono hb3.size));clear hb3 hb4 h4 hl4 hst4);go_roundg (m-(j+1));(case measure=>omega);case rel=>exact⟨j+1,by go_num,by omega,Nat.le_refl _,by show MOwn _ _ _ _;rw[HTK.out];simpa using HO4.out,HB4⟩
       |some m1=>
        rw[hmt]at HMA HTK
        have HMA:Hid (Calls Tryz.prog 79 #[.agg #[.string p.1,.int .i64 p.2],.string ws,.int .i64 e] W fun x w'=>x = .returned (.tuple #[Mq.valP m1,.bool true])∧Below W.heap.size W w'):=HMA.mono (by
         rintro x w' ⟨hb,⟨h,_⟩|⟨m0,h,rfl⟩⟩
         · cases h
         · cases h;exact⟨rfl,hb⟩)
        clear hmt
        go_wp2_with (first
         |(go_at_call 79;refine HMA.out.mono ?_;rintro x w3 ⟨rfl,hb3⟩;obtain⟨W4,hst4,hb4,h4,hl4⟩:=box_M w3 m1;have hst5:Mq.storeP Tryz.prog (.pointer (some ⟨w3.heap.size,0,none⟩)) (Mq.valP m1) (w3.alloc (.cells #[.string ⟨#[]⟩,.int .i64 0,.int .i64 0] 74)) = .ok () W4:=hst4;have HB4:Hid (Below w2.heap.size w2 W4):=HBW.out.trans ((hb3.trans (hb4.mono hb3.size)).mono HBW.out.size);have HO4:Hid (MOwn w2.heap.size W4 (.slice gd gn gc) (l.filter (fOf C)++(C.take j).filterMap (mtch ws.data.toList e))):=zDd HOW.out (hb3.trans (hb4.mono hb3.size));have hld4:=h4.load;clear hb3 hb4 h4 hl4 hst4)
         |(at_builtin;refine zC3 rtyM (by rfl) _ _ [.string m1.1,.int .i64 m1.2.1,.int .i64 m1.2.2] _ rfl w2.heap.size _ _ _ _ rfl HO4.out rfl rfl (zId m1) (by have:=HGN.out;rw[List.length_map,this.2];omega) HB4.out.size ?_))
        intro v5 w5 hr5 hb5 _;have HO5:Hid (MOwn w2.heap.size w5 v5 (l.filter (fOf C)++(C.take (j+1)).filterMap (mtch ws.data.toList e))):=by
         show MOwn _ _ _ _;rw[HTK.out,←List.append_assoc];refine zQe ?_;rw[List.map_append,List.append_assoc];exact hr5
        have HB5:Hid (Below w2.heap.size w2 w5):=HB4.out.trans hb5;clear hr5 hb5;go_wp2_with fail;go_roundg (m-(j+1));(case measure=>omega);case rel=>exact⟨j+1,by go_num,by omega,Nat.le_refl _,HO5,HB5⟩
     · have hltz:¬(j:Int)<(m:Int):=by omega
       have HE:Hid (C.take j=C):=List.take_of_length_le (by have:=HML.out;omega);rw[HE.out]at HO2 HGN;have HSO:Hid (Calls Tryz.prog 80 #[.slice gd gn gc,.func (.func 81) #[] #[]] wr fun x w'=>x = .returned (.tuple #[])∧MOwn w2.heap.size w' (.slice gd gn gc) (zFt zAa (zPe l C ws.data.toList e))∧Below w2.heap.size wr w'):=zTx (l:=zPe l C ws.data.toList e) HO2.out (by have:=HGN.out;show(l.filter (fOf C)++C.filterMap (mtch ws.data.toList e)).length<_;rw[this.2];omega) HBq.out.size;clear HE HGN HO2 hj hg;go_wp2_with (go_at_call 80;refine HSO.out.mono ?_;rintro x w6 ⟨rfl,ho6,hb6⟩);go_ret2;exact⟨_,rfl,own_mono ho6 HB2.out.size,HB2.out.trans ((HBq.out.trans hb6).mono HB2.out.size)⟩
end Mg
end
section
open Go.RowKit Go.Shelf Go.Lib Nums Fm Pk Pm Fz Ed Lv
namespace Mg
theorem told_yes{w w':World}{l:List M}{over:List Pr}{word:List UInt8}{e:Int}{x:Ending}(hr:Go.Proofs.YtobjpljdgieklaaGreatDoor.rightB word e=true)(h:∃v',x = .returned (.tuple #[v',.int .i64 0])∧MOwn w.heap.size w' v' (zFt zAa (zPe l (norm zAa over) word e))∧Below w.heap.size w w'):
 ∃ad cap,x = .returned (.tuple #[.slice ad (mgL l over word e).length cap,.int .i64 (allC word e)])∧MRow w' (.slice ad (mgL l over word e).length cap) (mgL l over word e)∧Below w.heap.size w w':=by
 obtain⟨v',rfl,h1,h2⟩:=h;have e1:mgL l over word e=zFt zAa (zPe l (norm zAa over) word e):=by unfold mgL;rw[if_pos hr]
 have e2:allC word e=0:=by unfold allC;rw[if_pos hr]
 rw[←e1]at h1;obtain⟨ad,cap,rfl⟩:=zHs h1;exact⟨ad,cap,by rw[e2],zUm h1,h2⟩
theorem told_no{w w':World}{l:List M}{over:List Pr}{word:List UInt8}{e:Int}{x:Ending}(hr:¬Go.Proofs.YtobjpljdgieklaaGreatDoor.rightB word e=true)(h:x = .returned (.tuple #[.slice none 0 0,.int .i64 110])∧Below w.heap.size w w'):
 ∃ad cap,x = .returned (.tuple #[.slice ad (mgL l over word e).length cap,.int .i64 (allC word e)])∧MRow w' (.slice ad (mgL l over word e).length cap) (mgL l over word e)∧Below w.heap.size w w':=by
 obtain⟨rfl,h2⟩:=h;have e1:mgL l over word e=[]:=by unfold mgL;rw[if_neg hr]
 have e2:allC word e=110:=by unfold allC;rw[if_neg hr]
 rw[e1];exact⟨none,0,by rw[e2];rfl,zUm (B:=0) (GOwn.nil _ _ _ _),h2⟩
theorem Merge_no(w:World)(ht:Tabs w)(u v:Value)(l:List M)(over:List Pr)(ws:ByteArray)(e:Int)(hu:MRow w u l)(hv:PRow w v over)(hm:ws.size≤9223372036854775807)(hr:¬Go.Proofs.YtobjpljdgieklaaGreatDoor.rightB ws.data.toList e=true):
 Calls Tryz.prog 47 #[u,v,.string ws,.int .i64 e] w fun x w'=>x = .returned (.tuple #[.slice none 0 0,.int .i64 110])∧Below w.heap.size w w':=by
 obtain⟨ad,cap,rfl⟩:=hu.form;obtain⟨bd,bap,rfl⟩:=hv.form
 have HNW:Hid (Calls Tryz.prog 73 #[.string ws,.int .i64 e] w fun x w'=>x = .returned (.tuple #[.pointer none,.int .i64 110])∧Below w.heap.size w w'):=(New_any ws e w ht hm).mono (by
  rintro x w' ⟨v,c,rfl,hb,⟨_,rfl,rfl⟩|⟨h,_⟩⟩
  · exact⟨rfl,hb⟩
  · exact absurd h hr)
 clear hu hv hm hr ht;go_enter Tryz.func47,Tryz.ntmps47;go_wp2_with (go_at_call 73;refine HNW.out.mono ?_;rintro x w1 ⟨rfl,hb1⟩;have HB1:Hid (Below w.heap.size w w1):=hb1;clear hb1);go_ret2;exact⟨rfl,HB1.out⟩
theorem Merge_told(w:World)(ht:Tabs w)(u v:Value)(l:List M)(over:List Pr)(ws:ByteArray)(e:Int)(hu:MRow w u l)(hv:PRow w v over)(hs:Sm over)(hm:ws.size≤9223372036854775807)(hl:l.length<274877906944)(ho:over.length<274877906944):
 Calls Tryz.prog 47 #[u,v,.string ws,.int .i64 e] w fun x w'=>∃ad cap,x = .returned (.tuple #[.slice ad (mgL l over ws.data.toList e).length cap,.int .i64 (allC ws.data.toList e)])∧MRow w' (.slice ad (mgL l over ws.data.toList e).length cap) (mgL l over ws.data.toList e)∧Below w.heap.size w w':=by
 by_cases hr:Go.Proofs.YtobjpljdgieklaaGreatDoor.rightB ws.data.toList e=true
 · exact(zXt w ht u v l over ws e hu hv hs hm hl ho hr).mono fun x w' h=>told_yes hr h
 · exact(Merge_no w ht u v l over ws e hu hv hm hr).mono fun x w' h=>told_no hr h
end Mg
namespace Di
def sugL(L:List Pr)(q:Mt):List Mt:=Bt.bestF (Bt.kk q.2.2) (allL L q.1.data.toList q.2.1)
structure Sqd(db wb qb:Nat)(v:Value)(q:Mt)(W:World):Prop where
 c0:W.cell? ⟨db,0,none⟩=some (.pointer (some ⟨wb,0,none⟩))
 c1:W.cell? ⟨db,1,none⟩=some v
 q0:W.cell? ⟨qb,0,none⟩=some (.string q.1)
 q1:W.cell? ⟨qb,1,none⟩=some (.int .i64 q.2.1)
 q2:W.cell? ⟨qb,2,none⟩=some (.int .i64 q.2.2)
theorem Sqd.facts{db wb qb:Nat}{v:Value}{q:Mt}{W:World}(h:Sqd db wb qb v q W):W.cell? ⟨db,0,none⟩=some (.pointer (some ⟨wb,0,none⟩))∧W.cell? ⟨db,1,none⟩=some v∧W.cell? ⟨qb,0,none⟩=some (.string q.1)∧W.cell? ⟨qb,1,none⟩=some (.int .i64 q.2.1)∧W.cell? ⟨qb,2,none⟩=some (.int .i64 q.2.2):=⟨h.1,h.2,h.3,h.4,h.5⟩
theorem Sqd.below{db wb qb:Nat}{v:Value}{q:Mt}{w w':World}(h:Sqd db wb qb v q w)(hb:Below w.heap.size w w'):Sqd db wb qb v q w':=by
 have ld:=World.block_lt_of_cell? _ _ h.c0;have lq:=World.block_lt_of_cell? _ _ h.q0;exact⟨(hb.cell (p:=⟨db,0,none⟩) ld).trans h.c0,(hb.cell (p:=⟨db,1,none⟩) ld).trans h.c1,(hb.cell (p:=⟨qb,0,none⟩) lq).trans h.q0,(hb.cell (p:=⟨qb,1,none⟩) lq).trans h.q1,(hb.cell (p:=⟨qb,2,none⟩) lq).trans h.q2⟩
theorem best_row{w':World}{v:Value}{l:List Mt}{B:Nat}(h:GOwn 74 3 B w' v (l.map Bt.cellsM)):∃ad n cap,v = .slice ad n cap∧MRow w' v l∧∀k,v.ownBlock=some k→B≤k:=by
 obtain⟨ad,cap,e,_⟩:=GOwn.shape h;exact⟨ad,_,cap,e,GOwn.reads h,fun _ hk=>(GOwn.block h hk).1⟩
theorem zPi(B:Nat)(w:World)(db lo hi wb:Nat)(v:Value)(base over:List Pr)(h:DictAt B w db lo hi wb v base over)(q:Mt)(hq:q.1.size≤9223372036854775807):
 Calls Tryz.prog 22 #[.pointer (some ⟨db,0,none⟩),.agg #[.string q.1,.int .i64 q.2.1,.int .i64 q.2.2]] w fun e w'=>∃ad n cap,e = .returned (.tuple #[.slice ad n cap,.int .i64 (allC q.1.data.toList q.2.1)])∧MRow w' (.slice ad n cap) (sugL (zAm zAa base over) q)∧(∀k,(Value.slice ad n cap).ownBlock=some k→w.heap.size≤k)∧Below w.heap.size w w':=by
 obtain⟨vd,vc,hv⟩:=h.own.shape;obtain⟨vn,hvn⟩:∃vn,over.length=vn:=⟨_,rfl⟩;rw[hvn]at hv;subst hv;obtain⟨qb,hqb⟩:∃qb,qb=w.heap.size:=⟨_,rfl⟩;obtain⟨W0,hW0⟩:∃W0,W0=w.alloc (.cells #[.string q.1,.int .i64 q.2.1,.int .i64 q.2.2] 49):=⟨_,rfl⟩;have hb0:Below w.heap.size w W0:=by rw[hW0];exact(Below.refl _ w).alloc (Nat.le_refl _) _
 have hn0:W0.heap[qb]?=some (.cells #[.string q.1,.int .i64 q.2.1,.int .i64 q.2.2] 49):=by rw[hW0,hqb];exact zAb _ _
 have hsd:=h.sdb.below hb0;have hS0:Sqd db wb qb (.slice vd vn vc) q W0:=⟨hsd.c0,hsd.c1,by simp[World.cell?,hn0],by simp[World.cell?,hn0],by simp[World.cell?,hn0]⟩;have HS:Hid (∀W,Below W0.heap.size W0 W→Sqd db wb qb (.slice vd vn vc) q W):=fun W hW=>hS0.below hW
 have HB:Hid (∀W,Below W0.heap.size W0 W→Below w.heap.size w W):=fun W hW=>hb0.trans (hW.mono hb0.size)
 have hal:=zRg base q.1.data.toList q.2.1;have hbl:=(zAt h.ok.ok).2.2;have hovl:=h.ok.few;have HALL:Hid (∀W,Below W0.heap.size W0 W→Calls Tryz.prog 46 #[.pointer (some ⟨wb,0,none⟩),.string q.1,.int .i64 q.2.1] W fun x w'=>∃ad cap,x = .returned (.tuple #[.slice ad (allL base q.1.data.toList q.2.1).length cap,.int .i64 (allC q.1.data.toList q.2.1)])∧MRow w' (.slice ad (allL base q.1.data.toList q.2.1).length cap) (allL base q.1.data.toList q.2.1)∧Below W.heap.size W w'):=fun W hW=>All_told W wb base (h.on.below (HB.out W hW)) q.1 q.2.1 hq
 have HMG:Hid (∀W a,Below W0.heap.size W0 W→MRow W a (allL base q.1.data.toList q.2.1)→Calls Tryz.prog 47 #[a,.slice vd vn vc,.string q.1,.int .i64 q.2.1] W fun x w'=>∃ad cap,x = .returned (.tuple #[.slice ad (Mg.mgL (allL base q.1.data.toList q.2.1) over q.1.data.toList q.2.1).length cap,.int .i64 (allC q.1.data.toList q.2.1)])∧MRow w' (.slice ad (Mg.mgL (allL base q.1.data.toList q.2.1) over q.1.data.toList q.2.1).length cap) (Mg.mgL (allL base q.1.data.toList q.2.1) over q.1.data.toList q.2.1)∧Below W.heap.size W w'):=fun W a hW hm=>Mg.Merge_told W (h.tabs.go ((HB.out W hW).mono h.size)).now a _ _ over q.1 q.2.1 hm (h.row.below (HB.out W hW)) h.ok.sm.1 hq (by omega) (by omega)
 by_cases hr:Go.Proofs.YtobjpljdgieklaaGreatDoor.rightB q.1.data.toList q.2.1=true
 · have hC:allC q.1.data.toList q.2.1=0:=by unfold allC;rw[if_pos hr]
   have hmg:=Mg.mg_over (over:=over) (word:=q.1) (e:=q.2.1) h.ok.ok h.ok.all hr;rw[hC]at HALL HMG ⊢;rw[hmg]at HMG;have hl2:=zRg (zAm zAa base over) q.1.data.toList q.2.1;have hl3:=h.ok.len;obtain⟨L2,hL2⟩:∃L2,allL (zAm zAa base over) q.1.data.toList q.2.1=L2:=⟨_,rfl⟩;(have hsl:sugL (zAm zAa base over) q=Bt.bestF (Bt.kk q.2.2) L2:=by unfold sugL;rw[hL2]);rw[hL2]at HMG hl2;rw[hsl]
   have HSEL:Hid (∀W a,w.heap.size≤W.heap.size→MRow W a L2→Calls Tryz.prog 48 #[a,.int .i64 q.2.2] W fun e w'=>∃ad n cap,e = .returned (.slice ad n cap)∧MRow w' (.slice ad n cap) (Bt.bestF (Bt.kk q.2.2) L2)∧(∀k,(Value.slice ad n cap).ownBlock=some k→w.heap.size≤k)∧Below W.heap.size W w'):=fun W a hs hm=>(Bt.Select_any W a L2 q.2.2 hm (by omega)).mono (by
    rintro e w' ⟨vl,rfl,ho,hb⟩;obtain⟨ad,n,cap,rfl,hrow,hnew⟩:=best_row ho;exact⟨ad,n,cap,rfl,hrow,fun k hk=>Nat.le_trans hs (hnew k hk),hb⟩)
   obtain⟨L1,hL1⟩:∃L1,allL base q.1.data.toList q.2.1=L1:=⟨_,rfl⟩;rw[hL1]at HALL HMG;obtain⟨n1,hn1⟩:∃n1,L1.length=n1:=⟨_,rfl⟩;obtain⟨n2,hn2⟩:∃n2,L2.length=n2:=⟨_,rfl⟩;rw[hn1]at HALL;rw[hn2]at HMG;clear h hn0 hsd hal hbl hovl hr hC hmg hl2 hl3 hL2 hsl hL1 hn1 hn2 hvn hb0 hq;obtain⟨qs,qe,qk⟩:=q;simp only at *;go_enter Tryz.func22,Tryz.ntmps22;(go_upto_region 1 with fail);rw[←hqb,←hW0];clear hW0 hqb;have hbd:Below W0.heap.size W0 W0.drew:=(Below.refl _ W0).drew;have hSd:=HS.out _ hbd;refine zAf (S:=Sqd db wb qb (.slice vd vn vc) (qs,qe,qk)) 14 rfl zAn hSd (fun _=>?_);refine tq4 Sqd.facts 0 9 1 10 2 11 3 12 ?_;simp only[sZa,sZb,sZc];refine tq4 Sqd.facts 4 13 5 14 6 15 7 16 ?_;simp only[sZa,sZb,sZc];refine oc 8 W0.drew 17 46 #[.pointer (some ⟨wb,0,none⟩),.string qs,.int .i64 qe] ?_;refine(HALL.out _ hbd).mono ?_;rintro e w1 ⟨a1,c1,rfl,hm1,hb1⟩;have HB1:Hid (Below W0.heap.size W0 w1):=hbd.trans (hb1.mono hbd.size);have HM1:Hid (MRow w1 (.slice a1 n1 c1) L1):=hm1;have hS1:=HS.out w1 HB1.out;clear hb1 hm1;refine⟨_,rfl,hS1,fun _=>?_⟩;simp only[sZa,sZb,sZc];refine tq4 Sqd.facts 9 8 10 18 11 19 12 6 ?_;simp only[sZa,sZb,sZc];refine tq Sqd.facts 13 7 ?_;simp only[sZa,sZb,sZc];refine wpAnyH_done (by kernel_rfl) ?_ _;clear hS1 hSd hS0;(go_upto_region 4 with fail);have hbd2:Below w1.heap.size w1 w1.drew:=(Below.refl _ w1).drew;have hbe2:Below W0.heap.size W0 w1.drew:=HB1.out.trans (hbd2.mono HB1.out.size);have hS2:=HS.out _ hbe2;have HM1d:Hid (MRow w1.drew (.slice a1 n1 c1) L1):=HM1.out.below hbd2;refine zAf (S:=Sqd db wb qb (.slice vd vn vc) (qs,qe,qk)) 14 rfl zAn hS2 (fun _=>?_);refine tq4 Sqd.facts 0 24 1 25 2 26 3 27 ?_;simp only[sZa,sZb,sZc];refine tq4 Sqd.facts 4 28 5 29 6 30 7 31 ?_;simp only[sZa,sZb,sZc];refine tq Sqd.facts 8 32 ?_;simp only[sZa,sZb,sZc];refine oc 9 w1.drew 33 47 #[.slice a1 n1 c1,.slice vd vn vc,.string qs,.int .i64 qe] ?_;refine(HMG.out _ _ hbe2 HM1d.out).mono ?_;rintro e w3 ⟨a3,c3,rfl,hm3,hb3⟩;have HB3:Hid (Below W0.heap.size W0 w3):=hbe2.trans (hb3.mono hbe2.size);have HM3:Hid (MRow w3 (.slice a3 n2 c3) L2):=hm3;have hS3:=HS.out w3 HB3.out;clear hb3 hm3;refine⟨_,rfl,hS3,fun _=>?_⟩;simp only[sZa,sZb,sZc];refine tq4 Sqd.facts 10 23 11 34 12 35 13 6 ?_;simp only[sZa,sZb,sZc];refine wpAnyH_done (by kernel_rfl) ?_ _;obtain⟨_,_,_,_,y2⟩:=hS3.facts;clear hS3 hS2 hbd2;go_wp2_with (go_at_call 48;refine(HSEL.out _ _ (HB.out _ HB3.out).size HM3.out).mono ?_;rintro e w4 ⟨a4,n4,c4,rfl,hm4,hn4,hb4⟩;have HM4:Hid (MRow w4 (.slice a4 n4 c4) (Bt.bestF (Bt.kk qk) L2)∧(∀k,(Value.slice a4 n4 c4).ownBlock=some k→w.heap.size≤k)∧Below w3.heap.size w3 w4):=⟨hm4,hn4,hb4⟩;clear hm4 hn4 hb4);go_ret2;exact⟨a4,n4,c4,rfl,HM4.out.1,HM4.out.2.1,HB.out _ (HB3.out.trans (HM4.out.2.2.mono HB3.out.size))⟩
 · have hC:allC q.1.data.toList q.2.1=110:=by unfold allC;rw[if_neg hr]
   (have hA:allL base q.1.data.toList q.2.1=[]:=by unfold allL;rw[if_neg hr]);(have hA2:sugL (zAm zAa base over) q=[]:=by unfold sugL allL;rw[if_neg hr];rfl);rw[hC,hA]at HALL;rw[hC,hA2];clear HMG h hn0 hsd hal hbl hovl hr hC hA hA2 hvn hb0 hq;obtain⟨qs,qe,qk⟩:=q;simp only[List.length_nil]at *;go_enter Tryz.func22,Tryz.ntmps22;(go_upto_region 1 with fail);rw[←hqb,←hW0];clear hW0 hqb;have hbd:Below W0.heap.size W0 W0.drew:=(Below.refl _ W0).drew;have hSd:=HS.out _ hbd;refine zAf (S:=Sqd db wb qb (.slice vd vn vc) (qs,qe,qk)) 14 rfl zAn hSd (fun _=>?_);refine tq4 Sqd.facts 0 9 1 10 2 11 3 12 ?_;simp only[sZa,sZb,sZc];refine tq4 Sqd.facts 4 13 5 14 6 15 7 16 ?_;simp only[sZa,sZb,sZc];refine oc 8 W0.drew 17 46 #[.pointer (some ⟨wb,0,none⟩),.string qs,.int .i64 qe] ?_;refine(HALL.out _ hbd).mono ?_;rintro e w1 ⟨a1,c1,rfl,_,hb1⟩;have HB1:Hid (Below W0.heap.size W0 w1):=hbd.trans (hb1.mono hbd.size);have hS1:=HS.out w1 HB1.out;clear hb1;refine⟨_,rfl,hS1,fun _=>?_⟩;simp only[sZa,sZb,sZc];refine tq4 Sqd.facts 9 8 10 18 11 19 12 6 ?_;simp only[sZa,sZb,sZc];refine tq Sqd.facts 13 7 ?_;simp only[sZa,sZb,sZc];refine wpAnyH_done (by kernel_rfl) ?_ _;clear hS1 hSd hS0;go_wp2;go_ret2;exact⟨none,0,0,rfl,GOwn.reads (T:=74) (B:=0) (GOwn.nil _ _ _ _),fun k e=>(by cases e),HB.out _ HB1.out⟩
end Di
end
