import Derived.Test.YtobjpljdgieklaaGreatDoorJ21
import Derived.Test.YtobjpljdgieklaaGreatDoorJ39
import Derived.Calls
import Derived.Test.YtobjpljdgieklaaGreatDoorJ32
set_option maxRecDepth 100000
set_option maxHeartbeats 8000000
namespace Go.Proofs.YtobjpljdgieklaaGreatDoor
section
open Go.RowKit Go.Shelf Go.Lib Go.Sort Pm
namespace Mg
def cfW(a b:ByteArray):Int:=if zAa a b then -1 else if zAa b a then 1 else 0
theorem cfW_lt{a b:ByteArray}(h:zAa a b=true):cfW a b = -1:=by unfold cfW;rw[if_pos h]
theorem cfW_ge{a b:ByteArray}(h:zAa a b=false):¬cfW a b<0:=by unfold cfW;rw[h];cases zAa b a<;>decide
theorem cfW_eq(a b:ByteArray):cfW a b=0↔a=b:=by
 unfold cfW;constructor
 · intro h
   cases e1:zAa a b
   · cases e2:zAa b a
     · exact lessB_sto.tot _ _ e1 e2
     · rw[e1,e2]at h;simp at h
   · rw[e1]at h;simp at h
 · rintro rfl
   rw[lessB_sto.irr];rfl
theorem zPc(w:World)(o:Obj):Below w.heap.size w (w.alloc o):=(Below.refl _ w).alloc (Nat.le_refl _) _
theorem zRb(x:Pr)(s:ByteArray)(W:World):Calls Tryz.prog 121 #[.agg #[.string x.1,.int .i64 x.2],.string s] W fun e w'=>e = .returned (.int .i64 (cfW x.1 s))∧Below W.heap.size W w':=by
 have h1:∀W',Calls Tryz.prog 82 #[.string x.1,.string s] W' fun e w'=>e = .returned (.int .i64 (cfW x.1 s))∧w'=W':=fun W'=>Mq.inOrder_any x.1 s W'
 generalize cfW x.1 s=c at h1 ⊢;go_enter Tryz.func121,Tryz.ntmps121;go_wp2_with (go_at_call 82;refine(h1 _).mono ?_;rintro e w' ⟨rfl,rfl⟩);go_ret;exact⟨rfl,zPc _ _⟩
def hasW(C:List Pr)(s:ByteArray):Bool:=decide (∃p∈C,p.1=s)
theorem has_at{C:List Pr}{s:ByteArray}(hC:SUp zAa C)(i:Nat)(x:Pr)(hx:C[i]?=some x)(h1:∀k y,k<i→C[k]?=some y→zAa y.1 s=true)(h2:zAa x.1 s=false):hasW C s=(cfW x.1 s==0):=by
 unfold hasW;rw[Bool.eq_iff_iff,decide_eq_true_iff,beq_iff_eq,cfW_eq];constructor
 · rintro⟨p,hp,rfl⟩
   obtain⟨k,hk⟩:=List.getElem?_of_mem hp;rcases Nat.lt_trichotomy k i with h|h|h
   · have:=h1 k p h hk
     rw[lessB_sto.irr]at this;cases this
   · subst h;rw[hk]at hx;exact(congrArg Prod.fst (Option.some.inj hx)).symm
   · obtain⟨hil,hie⟩:=List.getElem?_eq_some_iff.1 hx
     obtain⟨hkl,hke⟩:=List.getElem?_eq_some_iff.1 hk;have:=List.pairwise_iff_getElem.1 hC i k hil hkl h;rw[hie,hke,h2]at this;cases this
 · intro e
   exact⟨x,List.mem_of_getElem? hx,e⟩
theorem has_none{C:List Pr}{s:ByteArray}(i:Nat)(hi:C.length≤i)(h1:∀k y,k<i→C[k]?=some y→zAa y.1 s=true):hasW C s=false:=by
 unfold hasW;rw[decide_eq_false_iff_not];rintro⟨p,hp,rfl⟩;obtain⟨k,hk⟩:=List.getElem?_of_mem hp;have:=h1 k p (by have:=(List.getElem?_eq_some_iff.1 hk).1;omega) hk;rw[lessB_sto.irr]at this;cases this
theorem low_next{C:List Pr}{s:ByteArray}(hC:SUp zAa C){h:Nat}{y:Pr}(hy:C[h]?=some y)(hv:zAa y.1 s=true):∀k z,k<h+1→C[k]?=some z→zAa z.1 s=true:=fun k z hk hz=>by
 by_cases e:k=h
 · subst e;rw[hz]at hy;rw[Option.some.inj hy];exact hv
 · obtain⟨h1,e1⟩:=List.getElem?_eq_some_iff.1 hy
   obtain⟨h2,e2⟩:=List.getElem?_eq_some_iff.1 hz;have:=List.pairwise_iff_getElem.1 hC k h h2 h1 (by omega);rw[e1,e2]at this;exact lessB_sto.tr _ _ _ this hv
attribute [local go_sem ↓] exec_load_P exec_store_P
theorem zR2(w:World)(v:Value)(C:List Pr)(s:ByteArray)(hr:PRow w v C)(hC:SUp zAa C)(hl:C.length<549755813888):
 Calls Tryz.prog 120 #[v,.string s,.func (.func 121) #[] #[]] w fun e w'=>∃i,e = .returned (.tuple #[.int .i64 i,.bool (hasW C s)])∧Below w.heap.size w w':=by
 obtain⟨ad,cap,rfl,_⟩:=id hr;obtain⟨n,hn⟩:∃n,C.length=n:=⟨_,rfl⟩;have HN:Hid (C.length=n):=hn;rw[hn]at hr hl ⊢;have HROW:Hid (PRow w (.slice ad n cap) C):=hr;have HC:Hid (SUp zAa C):=hC;clear hr hC hn;go_enter Tryz.func120,Tryz.ntmps120;go_wp2
 go_loopg [9,10] n (fun g s9 s10 wr=>∃(i j:Nat),s9 = .int .i64 i∧s10 = .int .i64 j∧i≤j∧j≤n∧j-i≤g∧Hid (Below w.heap.size w wr)∧Hid ((∀k y,k<i→C[k]?=some y→zAa y.1 s=true)∧(∀y,C[j]?=some y→zAa y.1 s=false)))
 case atStart=>exact⟨0,n,rfl,rfl,Nat.zero_le _,Nat.le_refl _,by omega,Below.refl _ _,fun k y hk=>by omega,fun y hy=>by have:=(List.getElem?_eq_some_iff.1 hy).1;have:=HN.out;omega⟩
 case round=>
  obtain⟨i,j,rfl,rfl,hij,hjn,hg,HB,H⟩:=hrel;by_cases hlt:i<j
  · have hltz:(i:Int)<(j:Int):=by omega
    obtain⟨h,hh⟩:∃h,h=(i+j)/2:=⟨_,rfl⟩;(have ehz:((i:Int)+(j:Int))/2=(h:Int):=by omega);(have hih:i≤h:=by omega);(have hhj:h<j:=by omega);clear hh;(have rh:IntKind.i64.wrap (h:Int)=(h:Int):=by rw[IntKind.wrap_i64];omega);(have ph:(0:Int)≤(h:Int):=by omega);(have bh:(h:Int)<(n:Int):=by omega);(have eh:(h:Int).toNat=h:=by omega);obtain⟨y,hy⟩:∃y,C[h]?=some y:=⟨C[h]'(by have:=HN.out;omega),List.getElem?_eq_getElem _⟩;have HY:Hid (C[h]?=some y):=hy;obtain⟨g0,off,hgo,hg0,hc⟩:=(HROW.out.below HB.out).at (by omega);subst hgo;have hld:=(hc h y hy).load;have HCM:Hid (Calls Tryz.prog 121 #[valP y,.string s] wr fun e w'=>e = .returned (.int .i64 (cfW y.1 s))∧Below wr.heap.size wr w'):=zRb y s wr;clear hc hg0 hy;cases hv:zAa y.1 s
    · have hv1:¬cfW y.1 s<0:=cfW_ge hv
      have HV:Hid (zAa y.1 s=false):=hv;clear hv;go_wp2_with (first|(go_at_fn 121;refine HCM.out.mono ?_;rintro e w2 ⟨rfl,hb2⟩;have HB2:Hid (Below w.heap.size w w2):=HB.out.trans (hb2.mono HB.out.size);clear hb2)|(go_at_call 121;refine HCM.out.mono ?_;rintro e w2 ⟨rfl,hb2⟩;have HB2:Hid (Below w.heap.size w w2):=HB.out.trans (hb2.mono HB.out.size);clear hb2));go_roundg (h-i);(case measure=>omega);case rel=>exact⟨i,h,rfl,by first|rfl|go_num,hih,by omega,Nat.le_refl _,HB2,H.out.1,fun z hz=>by have e:=HY.out;rw[hz]at e;rw[Option.some.inj e];exact HV.out⟩
    · have hv1:cfW y.1 s = -1:=cfW_lt hv
      have HV:Hid (zAa y.1 s=true):=hv;rw[hv1]at HCM;clear hv hv1;go_wp2_with (first|(go_at_fn 121;refine HCM.out.mono ?_;rintro e w2 ⟨rfl,hb2⟩;have HB2:Hid (Below w.heap.size w w2):=HB.out.trans (hb2.mono HB.out.size);clear hb2)|(go_at_call 121;refine HCM.out.mono ?_;rintro e w2 ⟨rfl,hb2⟩;have HB2:Hid (Below w.heap.size w w2):=HB.out.trans (hb2.mono HB.out.size);clear hb2));go_roundg (j-(h+1));(case measure=>omega);case rel=>exact⟨h+1,j,by go_num,rfl,by omega,hjn,Nat.le_refl _,HB2,low_next HC.out HY.out HV.out,H.out.2⟩
  · have hltz:¬(i:Int)<(j:Int):=by omega
    (obtain rfl:i=j:=by omega);by_cases hin:i<n
    · have hinz:(i:Int)<(n:Int):=by omega
      obtain⟨y,hy⟩:∃y,C[i]?=some y:=⟨C[i]'(by have:=HN.out;omega),List.getElem?_eq_getElem _⟩;obtain⟨g0,off,hgo,hg0,hc⟩:=(HROW.out.below HB.out).at (by omega);subst hgo;have HHA:Hid (hasW C s=(cfW y.1 s==0)):=has_at HC.out i y hy H.out.1 (H.out.2 y hy);have hld:=(hc i y hy).load;have HCM:Hid (Calls Tryz.prog 121 #[valP y,.string s] wr fun e w'=>e = .returned (.int .i64 (cfW y.1 s))∧Below wr.heap.size wr w'):=zRb y s wr;clear hc hg0 hy;generalize cfW y.1 s=c at HCM HHA;go_wp2_with (first|(go_at_fn 121;refine HCM.out.mono ?_;rintro e w2 ⟨rfl,hb2⟩;have HB2:Hid (Below w.heap.size w w2):=HB.out.trans (hb2.mono HB.out.size);clear hb2)|(go_at_call 121;refine HCM.out.mono ?_;rintro e w2 ⟨rfl,hb2⟩;have HB2:Hid (Below w.heap.size w w2):=HB.out.trans (hb2.mono HB.out.size);clear hb2));go_ret2;exact⟨_,by rw[HHA.out];rfl,HB2.out⟩
    · have hinz:¬(i:Int)<(n:Int):=by omega
      have HHA:Hid (hasW C s=false):=has_none i (by have:=HN.out;omega) H.out.1;go_wp2;go_ret2;first|exact⟨_,by rw[HHA.out];rfl,HB.out⟩|exact⟨⟨_,by rw[HHA.out];rfl⟩,HB.out⟩
theorem zO3(w:World)(v:Value)(C:List Pr)(s:ByteArray)(hr:PRow w v C)(hC:SUp zAa C)(hl:C.length<549755813888):
 Calls Tryz.prog 78 #[v,.string s] w fun e w'=>e = .returned (.bool (hasW C s))∧Below w.heap.size w w':=by
 have h1:=zR2 w v C s hr hC hl;clear hr hC hl;generalize hasW C s=b at h1 ⊢;go_enter Tryz.func78,Tryz.ntmps78;go_wp2_with (go_at_call 120;refine h1.mono ?_;rintro e w2 ⟨i,rfl,hb2⟩);go_ret;exact⟨rfl,hb2⟩
end Mg
end
section
open Go.RowKit Go.Shelf Go.Lib Go.Sort Pm Nums Ed
namespace Mg
def mtch(word:List UInt8)(edits:Int)(p:Pr):Option Mq.Pr:=
 if p.2≤0∨zAq p.1.data.toList=false then none
 else match dsE p.1.data.toList word with
  |some d=>if (d:Int)≤edits then some (p.1,p.2,(d:Int))else none
  |none=>none
theorem zDg{tmps:Array Value}{w:World}{rb:Nat}{a b c:Value}(h2:tmps.getD 6 undef = .pointer (some ⟨rb,0,none⟩))(c0:w.cell? ⟨rb,0,none⟩=some a)(c1:w.cell? ⟨rb,1,none⟩=some b)(c2:w.cell? ⟨rb,2,none⟩=some c):(results Tryz.f79 tmps).run Tryz.prog w = .ok (.tuple #[.agg #[a,b,c],tmps.getD 7 undef]) w:=by
 have h2':tmps[6]?.getD undef = .pointer (some ⟨rb,0,none⟩):=by simpa using h2
 simp[results,Tryz.results79,go_sem,h2',c0,c1,c2]
theorem zXe(w:World)(o:Obj):(w.alloc o).heap[w.heap.size]?=some o:=by show(w.heap.push o)[w.heap.size]?=_;simp
theorem zGe(w1:World)(mb:Nat)(a b c:Value)(hb:w1.heap[mb]?=some (.cells #[a,b,c] 74))(x:Mq.Pr)(B:Nat)(hB:B≤mb):
 ∃W,Mq.storeP Tryz.prog (.pointer (some ⟨mb,0,none⟩)) (Mq.valP x) w1 = .ok () W∧Below B w1 W∧W.heap[mb]?=some (.cells (Mq.encP x).toArray 74):=by
 refine⟨w1.setCells mb 0 (Mq.encP x),Mq.storeP_at (u:=a) (v:=b) (z:=c) (by simp[World.cell?,hb]) (by simp[World.cell?,hb]) (by simp[World.cell?,hb]) (by simp[World.frozen?,hb]) (by simp[World.frozen?,hb]) (by simp[World.frozen?,hb]),?_,?_⟩
 · show Below B w1 (((w1.setCell ⟨mb,0,none⟩ _).setCell ⟨mb,1,none⟩ _).setCell ⟨mb,2,none⟩ _)
   exact(((Below.refl B w1).setCell (p:=⟨mb,0,none⟩) hB _).setCell (p:=⟨mb,1,none⟩) hB _).setCell (p:=⟨mb,2,none⟩) hB _
 · simp[Mq.encP,World.setCells,World.setCell,Array.getElem?_modify,hb]
theorem zO6{W:World}{mb:Nat}{x:Mq.Pr}(h:W.heap[mb]?=some (.cells (Mq.encP x).toArray 74)):W.cell? ⟨mb,0,none⟩=some (.string x.1)∧W.cell? ⟨mb,1,none⟩=some (.int .i64 x.2.1)∧W.cell? ⟨mb,2,none⟩=some (.int .i64 x.2.2):=by
 refine⟨by simp[World.cell?,h,Mq.encP],by simp[World.cell?,h,Mq.encP],by simp[World.cell?,h,Mq.encP]⟩
def zRk(w w':World)(o:Option Mq.Pr)(e:Ending):Prop:=Below w.heap.size w w'∧((o=none∧∃m,e = .returned (.tuple #[Mq.valP m,.bool false]))∨∃m,o=some m∧e = .returned (.tuple #[Mq.valP m,.bool true]))
theorem zG3{w Wz:World}{rb:Nat}{o:Option Mq.Pr}(hz:Wz.heap[rb]?=some (.cells #[.string ⟨#[]⟩,.int .i64 0,.int .i64 0] 74))(hb:Below w.heap.size w Wz)(hr:w.heap.size≤rb)(ho:o=none):
 ∃W3,Mq.storeP Tryz.prog (.pointer (some ⟨rb,0,none⟩)) (.agg #[.string ⟨#[]⟩,.int .i64 0,.int .i64 0]) Wz = .ok () W3∧W3.cell? ⟨rb,0,none⟩=some (.string ⟨#[]⟩)∧W3.cell? ⟨rb,1,none⟩=some (.int .i64 0)∧W3.cell? ⟨rb,2,none⟩=some (.int .i64 0)∧Hid (zRk w W3 o (.returned (.tuple #[Mq.valP (⟨#[]⟩,0,0),.bool false]))):=by
 obtain⟨W3,hst,hb3,hc3⟩:=zGe Wz rb _ _ _ hz (⟨#[]⟩,0,0) w.heap.size hr;obtain⟨k0,k1,k2⟩:=zO6 hc3;exact⟨W3,hst,k0,k1,k2,hb.trans hb3,.inl ⟨ho,_,rfl⟩⟩
theorem zTa{w Wz:World}{rb:Nat}{o:Option Mq.Pr}(x:Mq.Pr)(hz:Wz.heap[rb]?=some (.cells #[.string ⟨#[]⟩,.int .i64 0,.int .i64 0] 74))(hb:Below w.heap.size w Wz)(hr:w.heap.size≤rb)(ho:o=some x):
 ∃W3,Mq.storeP Tryz.prog (.pointer (some ⟨rb,0,none⟩)) (.agg #[.string x.1,.int .i64 x.2.1,.int .i64 x.2.2]) Wz = .ok () W3∧W3.cell? ⟨rb,0,none⟩=some (.string x.1)∧W3.cell? ⟨rb,1,none⟩=some (.int .i64 x.2.1)∧W3.cell? ⟨rb,2,none⟩=some (.int .i64 x.2.2)∧Hid (zRk w W3 o (.returned (.tuple #[Mq.valP x,.bool true]))):=by
 obtain⟨W3,hst,hb3,hc3⟩:=zGe Wz rb _ _ _ hz x w.heap.size hr;obtain⟨k0,k1,k2⟩:=zO6 hc3;exact⟨W3,hst,k0,k1,k2,hb.trans hb3,.inr ⟨x,ho,rfl⟩⟩
attribute [local go_sem ↓] Mq.exec_store_P
theorem zU2(p:Pr)(ws:ByteArray)(word:List UInt8)(hw:ws.data.toList=word)(edits:Int)(w:World)(ht:Tabs w)(hp:p.1.size≤9223372036854775807)(hs:ws.size≤9223372036854775807):
 Calls Tryz.prog 79 #[.agg #[.string p.1,.int .i64 p.2],.string ws,.int .i64 edits] w fun e w'=>zRk w w' (mtch word edits p) e:=by
 obtain⟨V2,hV2⟩:∃V2,(w.alloc (.cells #[.string p.1,.int .i64 p.2] 64)).alloc (.cells #[.string ⟨#[]⟩,.int .i64 0,.int .i64 0] 74)=V2:=⟨_,rfl⟩;obtain⟨pb,hpb⟩:∃pb,w.heap.size=pb:=⟨_,rfl⟩;obtain⟨rb,hrb⟩:∃rb,pb+1=rb:=⟨_,rfl⟩;have HB2:Hid (Below w.heap.size w V2):=by show Below _ _ _;rw[←hV2];exact((Below.refl _ w).alloc (Nat.le_refl _) _).alloc (by simp) _
 have HR2:Hid (V2.heap[rb]?=some (.cells #[.string ⟨#[]⟩,.int .i64 0,.int .i64 0] 74)):=by
  have:=zXe (w.alloc (.cells #[.string p.1,.int .i64 p.2] 64)) (.cells #[.string ⟨#[]⟩,.int .i64 0,.int .i64 0] 74);rw[hV2]at this;show V2.heap[rb]?=_;rw[←hrb,←hpb];simpa using this
 have hP2:V2.heap[pb]?=some (.cells #[.string p.1,.int .i64 p.2] 64):=by
  rw[←hV2,←hpb];show((w.heap.push _).push _)[w.heap.size]?=_;simp only[Array.getElem?_push,Array.size_push];rw[if_neg (by omega),if_pos trivial]
 have HRB:Hid (w.heap.size≤rb):=by show w.heap.size≤rb;omega
 have p0:V2.cell? ⟨pb,0,none⟩=some (.string p.1):=by simp[World.cell?,hP2]
 have p1:V2.cell? ⟨pb,1,none⟩=some (.int .i64 p.2):=by simp[World.cell?,hP2]
 have HP2:Hid (V2.heap[pb]?=some (.cells #[.string p.1,.int .i64 p.2] 64)):=hP2;have HT2:Hid (Tabs V2):=ht.below HB2.out;clear hP2;by_cases h0:p.2≤0
 · have HNO:Hid (mtch word edits p=none):=by show mtch word edits p=none;unfold mtch;rw[if_pos (.inl h0)]
   obtain⟨W3,hst2,k0,k1,k2,HFIN⟩:=zG3 HR2.out HB2.out HRB.out HNO.out;go_enter Tryz.func79,Tryz.ntmps79;go_wp2;refine bodyPost_ret (zDg rfl k0 k1 k2) rfl ?_;exact HFIN.out
 · have HWD:Hid (Calls Tryz.prog 56 #[.string p.1] V2 fun e w'=>e = .returned (.bool (zAq p.1.data.toList))∧∃n,w'=V2.drewN n):=zCj p.1 V2 HT2.out hp
   (have HDR:Hid (∀q,(V2.drewN q).heap[rb]?=some (.cells #[.string ⟨#[]⟩,.int .i64 0,.int .i64 0] 74)∧Below w.heap.size w (V2.drewN q)):=fun q=>⟨HR2.out,belowN HB2.out q⟩);cases hwb:zAq p.1.data.toList
   · rw[hwb]at HWD
     (have HNO:Hid (mtch word edits p=none):=by show mtch word edits p=none;unfold mtch;rw[if_pos (.inr hwb)]);clear hwb;go_enter Tryz.func79,Tryz.ntmps79;go_wp2_with (go_at_call 56;refine HWD.out.mono ?_;rintro e w3 ⟨rfl,q,hq⟩;subst hq;obtain⟨W3,hst2,k0,k1,k2,HFIN⟩:=zG3 (HDR.out q).1 (HDR.out q).2 HRB.out HNO.out);refine bodyPost_ret (zDg rfl k0 k1 k2) rfl ?_;exact HFIN.out
   · rw[hwb]at HWD
     have HMT:Hid (mtch word edits p=match dsE p.1.data.toList word with|some d=>if (d:Int)≤edits then some (p.1,p.2,(d:Int))else none|none=>none):=by
      show mtch word edits p=_;unfold mtch;rw[if_neg (by rintro(h|h);exact h0 h;rw[hwb]at h;cases h)]
     have HDI:Hid (∀q,Calls Tryz.prog 122 #[.string p.1,.string ws] (V2.drewN q) fun e w'=>e = .returned (dsV (dsE p.1.data.toList word))∧Below (V2.drewN q).heap.size (V2.drewN q) w'):=fun q=>by
      have:=zNv p.1 ws (V2.drewN q) (ht.below ((HDR.out q).2)) hp hs;rw[hw]at this;exact this
     have HAF:Hid (∀q w4,Below (V2.drewN q).heap.size (V2.drewN q) w4→w4.heap[rb]?=some (.cells #[.string ⟨#[]⟩,.int .i64 0,.int .i64 0] 74)∧Below w.heap.size w w4∧w4.cell? ⟨pb,0,none⟩=some (.string p.1)∧w4.cell? ⟨pb,1,none⟩=some (.int .i64 p.2)):=fun q w4 hb4=>by
      have h1:=(hb4.block rb (Array.getElem?_eq_some_iff.1 (HDR.out q).1).1).trans (HDR.out q).1;have h2:=hb4.block pb (Array.getElem?_eq_some_iff.1 HP2.out).1;have h3:w4.heap[pb]?=some (.cells #[.string p.1,.int .i64 p.2] 64):=h2.trans HP2.out;exact⟨h1,(HDR.out q).2.trans (hb4.mono (HDR.out q).2.size),by simp[World.cell?,h3],by simp[World.cell?,h3]⟩
     clear hwb;cases hds:dsE p.1.data.toList word with
     |none=>
      rw[hds]at HDI HMT;clear hds;go_enter Tryz.func79,Tryz.ntmps79
      go_wp2_with (first
       |(go_at_call 56;refine HWD.out.mono ?_;rintro e w3 ⟨rfl,q,hq⟩;subst hq)
       |(go_at_call 122;refine(HDI.out q).mono ?_;rintro e w4 ⟨rfl,hb4⟩;obtain⟨hz4,hbw4,_⟩:=HAF.out q w4 hb4;obtain⟨W3,hst2,k0,k1,k2,HFIN⟩:=zG3 hz4 hbw4 HRB.out HMT.out;clear hz4 hbw4 hb4;unfold dsV))
      refine bodyPost_ret (zDg rfl k0 k1 k2) rfl ?_;exact HFIN.out
     |some d=>
      rw[hds]at HDI HMT;clear hds;by_cases hde:(d:Int)≤edits
      · have HMS:Hid (mtch word edits p=some (p.1,p.2,(d:Int))):=by have:=HMT.out;simp only[hde,if_true]at this;exact this
        (have hde2:¬(d:Int)>edits:=by omega);go_enter Tryz.func79,Tryz.ntmps79
        go_wp2_with (first
         |(go_at_call 56;refine HWD.out.mono ?_;rintro e w3 ⟨rfl,q,hq⟩;subst hq)
         |(go_at_call 122;refine(HDI.out q).mono ?_;rintro e w4 ⟨rfl,hb4⟩;obtain⟨hz4,hbw4,q0,q1⟩:=HAF.out q w4 hb4;obtain⟨W3,hst2,k0,k1,k2,HFIN⟩:=zTa _ hz4 hbw4 HRB.out HMS.out;clear hz4 hbw4 hb4;unfold dsV))
        refine bodyPost_ret (zDg rfl k0 k1 k2) rfl ?_;exact HFIN.out
      · have HMS:Hid (mtch word edits p=none):=by have:=HMT.out;simp only[hde,if_false]at this;exact this
        (have hde2:edits<(d:Int):=by omega);go_enter Tryz.func79,Tryz.ntmps79
        go_wp2_with (first
         |(go_at_call 56;refine HWD.out.mono ?_;rintro e w3 ⟨rfl,q,hq⟩;subst hq)
         |(go_at_call 122;refine(HDI.out q).mono ?_;rintro e w4 ⟨rfl,hb4⟩;obtain⟨hz4,hbw4,_⟩:=HAF.out q w4 hb4;obtain⟨W3,hst2,k0,k1,k2,HFIN⟩:=zG3 hz4 hbw4 HRB.out HMS.out;clear hz4 hbw4 hb4;unfold dsV))
        refine bodyPost_ret (zDg rfl k0 k1 k2) rfl ?_;exact HFIN.out
end Mg
end
section
open Go.RowKit Go.Lib Nums Pm
namespace Bt
theorem zD4(w1:World)(mb:Nat)(a b c:Value)(hb:w1.heap[mb]?=some (.cells #[a,b,c] 74))(x:Mt):
 ∃W,zC9 Tryz.prog (.pointer (some ⟨mb,0,none⟩)) (valM x) w1 = .ok () W∧Upd (fun k=>k=mb) w1 W∧W.heap[mb]?=some (.cells (cellsM x).toArray 74):=by
 refine⟨w1.setCells mb 0 (cellsM x),zC8 (u:=a) (v:=b) (z:=c) (by simp[World.cell?,hb]) (by simp[World.cell?,hb]) (by simp[World.cell?,hb]) (by simp[World.frozen?,hb]) (by simp[World.frozen?,hb]) (by simp[World.frozen?,hb]),Upd.setCells (F:=fun k=>k=mb) rfl _ _ (Upd.refl _ _),?_⟩;simp[cellsM,World.setCells,World.setCell,Array.getElem?_modify,hb]
theorem zD5{W:World}{mb:Nat}{x:Mt}(h:W.heap[mb]?=some (.cells (cellsM x).toArray 74)):W.cell? ⟨mb,0,none⟩=some (.string x.1)∧W.cell? ⟨mb,1,none⟩=some (.int .i64 x.2.1)∧W.cell? ⟨mb,2,none⟩=some (.int .i64 x.2.2):=by
 refine⟨by simp[World.cell?,h,cellsM],by simp[World.cell?,h,cellsM],by simp[World.cell?,h,cellsM]⟩
theorem zKl{W:World}{mb:Nat}{x:Mt}(h:W.heap[mb]?=some (.cells (cellsM x).toArray 74)):zFo Tryz.prog (.pointer (some ⟨mb,0,none⟩)) W = .ok (valM x) W:=by
 obtain⟨c0,c1,c2⟩:=zD5 h;exact zDp c0 c1 c2
theorem zRr{tmps:Array Value}{w:World}{rb:Nat}{a b c:Value}(h2:tmps.getD 2 undef = .pointer (some ⟨rb,0,none⟩))(c0:w.cell? ⟨rb,0,none⟩=some a)(c1:w.cell? ⟨rb,1,none⟩=some b)(c2:w.cell? ⟨rb,2,none⟩=some c):(results Tryz.f127 tmps).run Tryz.prog w = .ok (.agg #[a,b,c]) w:=by
 have h2':tmps[2]?.getD undef = .pointer (some ⟨rb,0,none⟩):=by simpa using h2
 simp[results,Tryz.results127,go_sem,h2',c0,c1,c2]
theorem zI0{tmps:Array Value}{w:World}{rb:Nat}{a b c:Value}(h2:tmps.getD 2 undef = .pointer (some ⟨rb,0,none⟩))(c0:w.cell? ⟨rb,0,none⟩=some a)(c1:w.cell? ⟨rb,1,none⟩=some b)(c2:w.cell? ⟨rb,2,none⟩=some c):(results Tryz.f125 tmps).run Tryz.prog w = .ok (.tuple #[.agg #[a,b,c],tmps.getD 3 undef]) w:=by
 have h2':tmps[2]?.getD undef = .pointer (some ⟨rb,0,none⟩):=by simpa using h2
 simp[results,Tryz.results125,go_sem,h2',c0,c1,c2]
attribute [local go_sem ↓] zB8 zBu
theorem zFe(B:Nat)(w:World)(p:Nat)(room:Int)(v:Value)(h:List Mt)(n:Nat)(K:KAt B w p room v h)(H:Hp h.length h)(hn:h.length=n+1)(hl:h.length<549755813888):
 Calls Tryz.prog 127 #[.pointer (some ⟨p,0,none⟩)] w fun e w'=>e = .returned (valM (el h 0))∧∃v' h',KAt B w' p room v' h'∧Upd (KF p v) w w'∧v'.ownBlock=v.ownBlock∧(el h 0::h').Perm h∧Hp h'.length h'∧h'.length=n:=by
 obtain⟨V1,hV1⟩:∃V1,w.alloc (.cells #[.string ⟨#[]⟩,.int .i64 0,.int .i64 0] 74)=V1:=⟨_,rfl⟩;obtain⟨mb,hmb⟩:∃mb,w.heap.size=mb:=⟨_,rfl⟩;have hb1:Below w.heap.size w V1:=by rw[←hV1];exact(Below.refl _ w).alloc (Nat.le_refl _) _
 have hn1:V1.heap[mb]?=some (.cells #[.string ⟨#[]⟩,.int .i64 0,.int .i64 0] 74):=by rw[←hV1,←hmb];exact zBv _ _
 have hmk:∀k,KF p v k→k<mb:=fun k hk=>by
  rcases hk with rfl|hk
  · have:=K.lt;omega
  · have:=K.row.lt hk;omega
 have HB1:Hid (Below w.heap.size w V1):=hb1;have HMK:Hid (∀k,KF p v k→k<mb):=hmk;have HN1:Hid (V1.heap[mb]?=some (.cells #[.string ⟨#[]⟩,.int .i64 0,.int .i64 0] 74)):=hn1;have HPO:Hid (Calls Tryz.prog 161 #[.iface 199 (.pointer (some ⟨p,1,none⟩))] V1 fun e w'=>e = .returned (.iface 74 (valM (el h 0)))∧∃v' h',KAt B w' p room v' h'∧Upd (KF p v) V1 w'∧v'.ownBlock=v.ownBlock∧(el h 0::h').Perm h∧Hp h'.length h'∧h'.length=n):=Pop_any B V1 p room v h n (K.below hb1) H hn hl;have HM:Hid (w.heap.size=mb):=hmb;have hta:=zHp;clear K H hn hb1 hn1 hmk;go_enter Tryz.func127,Tryz.ntmps127;go_upto_region 1 with fail
 clear hV1 hmb;go_wp2_with (go_at_call 161;refine HPO.out.mono ?_;rintro e w2 ⟨rfl,v2,h2,hK2,hu2,hx2,hr2⟩;have hm2:=(hu2.block mb (Array.getElem?_eq_some_iff.1 HN1.out).1 (fun f=>by have:=HMK.out mb f;omega)).trans HN1.out;obtain⟨W,hst,huW,hcW⟩:=zD4 w2 mb _ _ _ hm2 (el h 0);clear hm2;have HKK:Hid (KAt B w2 p room v2 h2∧Upd (KF p v) V1 w2∧v2.ownBlock=v.ownBlock∧(el h 0::h2).Perm h∧Hp h2.length h2∧h2.length=n):=⟨hK2,hu2,hx2,hr2⟩;have HUW:Hid (Upd (fun k=>k=mb) w2 W):=huW;have HCW:Hid (W.heap[mb]?=some (.cells (cellsM (el h 0)).toArray 74)):=hcW;clear hK2 hu2 hx2 hr2 huW hcW);obtain⟨c0,c1,c2⟩:=zD5 HCW.out;refine bodyPost_ret (zRr rfl c0 c1 c2) rfl ?_;have hmk2:∀k,KF p v2 k→k<mb:=fun k hk=>by
  rcases hk with rfl|hk
  · exact HMK.out _ (.inl rfl)
  · exact HMK.out _ (.inr (HKK.out.2.2.1▸hk))
 refine⟨rfl,v2,h2,HKK.out.1.upd HUW.out (fun k hk e=>by have:=hmk2 k hk;omega),?_,HKK.out.2.2⟩;have u1:Upd (KF p v) w w2:=(zAk HB1.out).trans HKK.out.2.1 (fun _ _ f=>f);exact⟨HUW.out.os.trans u1.os,HUW.out.tape.trans u1.tape,HUW.out.output.trans u1.output,Nat.le_trans u1.size HUW.out.size,fun k hk hf=>(HUW.out.block k (Nat.lt_of_lt_of_le hk u1.size) (by have:=HM.out;show ¬k=mb;omega)).trans (u1.block k hk hf)⟩
theorem zNq(B:Nat)(w:World)(p:Nat)(room:Int)(v:Value)(h:List Mt)(K:KAt B w p room v h):
 Calls Tryz.prog 125 #[.pointer (some ⟨p,0,none⟩)] w fun e w'=>e = .returned (.tuple #[valM (el h 0),.bool (decide (0<h.length))])∧Below w.heap.size w w':=by
 obtain⟨V1,hV1⟩:∃V1,w.alloc (.cells #[.string ⟨#[]⟩,.int .i64 0,.int .i64 0] 74)=V1:=⟨_,rfl⟩;obtain⟨mb,hmb⟩:∃mb,w.heap.size=mb:=⟨_,rfl⟩;have hb1:Below w.heap.size w V1:=by rw[←hV1];exact(Below.refl _ w).alloc (Nat.le_refl _) _
 have hn1:V1.heap[mb]?=some (.cells #[.string ⟨#[]⟩,.int .i64 0,.int .i64 0] 74):=by rw[←hV1,←hmb];exact zBv _ _
 have K1:=K.below hb1;have HL:Hid (Calls Tryz.prog 124 #[.pointer (some ⟨p,0,none⟩)] V1 fun e w'=>e = .returned (.int .i64 h.length)∧w'=V1):=zLm B V1 p room v h K1;have HFIN:Hid (∀W,Upd (fun k=>k=mb) V1 W→Below w.heap.size w W):=fun W u=>hb1.trans (u.below (B:=w.heap.size) (fun k e=>by have:k=mb:=e;omega) hb1.size)
 have c1:=K1.c1;by_cases h0:h.length=0
 · obtain⟨W,hst,huW,hcW⟩:=zD4 V1 mb _ _ _ hn1 (⟨#[]⟩,0,0)
   have HE:Hid (valM (el h 0) = .agg #[.string ⟨#[]⟩,.int .i64 0,.int .i64 0]):=by
    have:h=[]:=List.length_eq_zero_iff.1 h0;subst this;rfl
   have HD:Hid (decide (0<h.length)=false):=decide_eq_false (by omega);have HB:Hid (Below w.heap.size w W):=HFIN.out W huW;rw[h0]at HL;have hst2:zC9 Tryz.prog (.pointer (some ⟨mb,0,none⟩)) (.agg #[.string ⟨#[]⟩,.int .i64 0,.int .i64 0]) V1 = .ok () W:=hst;have HC:=zD5 hcW;clear K K1 hb1 hn1 h0 hst huW hcW HFIN;go_enter Tryz.func125,Tryz.ntmps125;go_wp2_with (go_at_call 124;refine HL.out.mono ?_;rintro e w2 ⟨rfl,hw2⟩;replace hw2:=hw2.symm;subst hw2);refine bodyPost_ret (zI0 rfl HC.1 HC.2.1 HC.2.2) rfl ?_;exact⟨by rw[HE.out,HD.out];rfl,HB.out⟩
 · obtain⟨W,hst,huW,hcW⟩:=zD4 V1 mb _ _ _ hn1 (el h 0)
   have HB:Hid (Below w.heap.size w W):=HFIN.out W huW;have HD:Hid (decide (0<h.length)=true):=decide_eq_true (by omega);obtain⟨g,cap,hv,hg,_,hcap,hc⟩:=GOwn.mt K1.row (by omega);obtain⟨n0,n1,n2,_⟩:=hc 0 (by omega);rw[Nat.zero_mul]at n0 n1 n2;have hld:zFo Tryz.prog (.pointer (some ⟨g,0,none⟩)) V1 = .ok (valM (el h 0)) V1:=zDp n0 n1 n2;obtain⟨n,hn⟩:∃n,h.length=n:=⟨_,rfl⟩;rw[hn]at hv HL h0 hcap;rw[hv]at c1;(have hz:((n:Int)==0)=false:=by simp;omega);(have hz2:(0:Int)<(n:Int):=by omega);have HC:=zD5 hcW;clear K K1 hb1 hn1 huW hcW HFIN hc n0 n1 n2 hn hv;go_enter Tryz.func125,Tryz.ntmps125;go_wp2_with (go_at_call 124;refine HL.out.mono ?_;rintro e w2 ⟨rfl,hw2⟩;replace hw2:=hw2.symm;subst hw2);refine bodyPost_ret (zI0 rfl HC.1 HC.2.1 HC.2.2) rfl ?_;exact⟨by rw[HD.out];rfl,HB.out⟩
theorem New_any(w:World)(k:Int):Calls Tryz.prog 83 #[.int .i64 k] w fun e w'=>e = .returned (.pointer (some ⟨w.heap.size,0,none⟩))∧KAt w.heap.size w' w.heap.size (min k 64) (.slice none 0 0) []∧Below w.heap.size w w':=by
 go_enter Tryz.func83,Tryz.ntmps83;go_wp2;go_ret;have hn:=zBv w (.cells #[.int .i64 (min k 64),.slice none 0 0] 195);have hb:=(Below.refl w.heap.size w).alloc (Nat.le_refl _) (.cells #[.int .i64 (min k 64),.slice none 0 0] 195);generalize w.alloc (.cells #[.int .i64 (min k 64),.slice none 0 0] 195)=W at hn hb ⊢;exact⟨rfl,⟨Nat.le_refl _,(Array.getElem?_eq_some_iff.1 hn).1,by simp[World.cell?,hn],by simp[World.cell?,hn],by simp[World.frozen?,hn],GOwn.nil _ _ _ _,by simp[Value.ownBlock]⟩,hb⟩
end Bt
end
section
open Go.RowKit Go.Lib Nums Pm
namespace Bt
def zIl(k:Nat)(out:List Mt)(m:Mt):Bool:=decide (out.length<k)||(decide (0<k)&&btr m (el out (k-1)))
structure AddSays(B:Nat)(w w':World)(p:Nat)(room:Int)(v:Value)(out:List Mt)(m:Mt):Prop where
 ex:∃v' h',KAt B w' p room v' h'∧Kp room.toNat (stp room.toNat out m) h'∧Nxt w v v'
 up:Upd (KF p v) w w'
def SAdd(mb:Nat)(m:Mt)(W:World):Prop:=W.heap[mb]?=some (.cells (cellsM m).toArray 74)
theorem SAdd.facts{mb:Nat}{m:Mt}{W:World}(h:SAdd mb m W):W.cell? ⟨mb,0,none⟩=some (.string m.1)∧W.cell? ⟨mb,1,none⟩=some (.int .i64 m.2.1)∧W.cell? ⟨mb,2,none⟩=some (.int .i64 m.2.2):=zD5 h
theorem zRi{B:Nat}{w wz:World}{p:Nat}{room:Int}{v v1:Value}{h1 out:List Mt}{m:Mt}{mb:Nat}(K1:KAt B wz p room v1 h1)(H1:Hp h1.length h1)(hl:h1.length<549755813888)(hx:v1.ownBlock=v.ownBlock)(hu:Upd (KF p v) w wz)(hS:SAdd mb m wz)(hmk:∀k,KF p v k→k<mb)(hKp:∀h',h'.Perm (h1++[m])→Hp h'.length h'→Kp room.toNat (stp room.toNat out m) h'):
 Calls Tryz.prog 128 #[zGd p,.iface 74 (valM m)] wz.drew fun e w'=>e = .returned (.tuple #[])∧SAdd mb m w'∧AddSays B w w' p room v out m:=by
 have hb:Below wz.heap.size wz wz.drew:=(Below.refl _ wz).drew;have e:KF p v1=KF p v:=by funext k;unfold KF;rw[hx]
 refine(Push_any B wz.drew p room v1 h1 m (K1.below hb) H1 hl).mono ?_;rintro e' w' ⟨rfl,v',h',hK,hu',hx',hp,hh⟩;rw[e]at hu';refine⟨rfl,?_,⟨v',h',hK,hKp h' hp hh,?_⟩,(hu.trans (G:=fun _=>False) (zAk hb) (fun _ _ f=>f.elim)).trans hu' (fun _ _ f=>f)⟩
 · unfold SAdd at hS ⊢
   rw[hu'.block mb (Array.getElem?_eq_some_iff.1 hS).1 (fun f=>by have:=hmk mb f;omega)];exact hS
 · rcases hx' with e2|⟨g,e2,hg⟩
   · exact .inl (e2.trans hx)
   · exact .inr ⟨g,e2,Nat.le_trans hu.size hg⟩
theorem zRo{k:Nat}{out:List Mt}(m:Mt)(h:out.length<k):zIl k out m=true:=by unfold zIl;rw[decide_eq_true h];rfl
theorem el_last(ini:List Mt)(z:Mt):el (ini++[z]) ini.length=z:=by unfold el;simp
theorem zRp{k:Nat}{ini:List Mt}{z:Mt}(m:Mt)(hk:k=ini.length+1):zIl k (ini++[z]) m=btr m z:=by
 unfold zIl;rw[decide_eq_false (by simp;omega),decide_eq_true (show 0<k by omega),show k-1=ini.length by omega,el_last];simp
theorem zRn{k:Nat}(m:Mt)(hk:k=0):zIl k [] m=false:=by subst hk;rfl
theorem zFa{B:Nat}{w wz w2:World}{p:Nat}{room:Int}{v:Value}{h:List Mt}{m:Mt}{mb:Nat}(K:KAt B wz p room v h)(hS:SAdd mb m wz)(hu:Upd (KF p v) w wz)(hb2:Below wz.heap.size wz w2)(x:Mt):
 ∃W3,zC9 Tryz.prog (.pointer (some ⟨w2.heap.size,0,none⟩)) (valM x) (w2.alloc (.cells #[.string ⟨#[]⟩,.int .i64 0,.int .i64 0] 74)) = .ok () W3∧Hid (KAt B W3 p room v h∧SAdd mb m W3∧Upd (KF p v) w W3)∧zFo Tryz.prog (.pointer (some ⟨mb,0,none⟩)) W3 = .ok (valM m) W3∧zFo Tryz.prog (.pointer (some ⟨w2.heap.size,0,none⟩)) W3 = .ok (valM x) W3:=by
 obtain⟨V3,hV3⟩:∃V3,w2.alloc (.cells #[.string ⟨#[]⟩,.int .i64 0,.int .i64 0] 74)=V3:=⟨_,rfl⟩;have hb3:Below w2.heap.size w2 V3:=by rw[←hV3];exact(Below.refl _ w2).alloc (Nat.le_refl _) _
 have hn3:V3.heap[w2.heap.size]?=some (.cells #[.string ⟨#[]⟩,.int .i64 0,.int .i64 0] 74):=by rw[←hV3];exact zBv _ _
 obtain⟨W3,hst,hu3,hc3⟩:=zD4 V3 w2.heap.size _ _ _ hn3 x;have hbz3:Below wz.heap.size wz V3:=hb2.trans (hb3.mono hb2.size);have hb33:Below wz.heap.size wz W3:=hbz3.trans (hu3.below (B:=wz.heap.size) (fun k e=>by have:k=w2.heap.size:=e;have:=hb2.size;omega) hbz3.size);have HS3:SAdd mb m W3:=by
  unfold SAdd;rw[hb33.block mb (Array.getElem?_eq_some_iff.1 hS).1];exact hS
 rw[hV3];exact⟨W3,hst,⟨K.below hb33,HS3,hu.trans (G:=fun _=>False) (zAk hb33) (fun _ _ f=>f.elim)⟩,zKl HS3,zKl hc3⟩
attribute [local go_sem ↓] zB8 zBu
theorem Add_any(B:Nat)(w:World)(p:Nat)(room:Int)(v:Value)(h out:List Mt)(m:Mt)(K:KAt B w p room v h)(KP:Kp room.toNat out h)(hr:room≤64):
 Calls Tryz.prog 84 #[.pointer (some ⟨p,0,none⟩),valM m] w fun e w'=>e = .returned (.bool (zIl room.toNat out m))∧AddSays B w w' p room v out m:=by
 obtain⟨V1,hV1⟩:∃V1,w.alloc (.cells #[.string m.1,.int .i64 m.2.1,.int .i64 m.2.2] 74)=V1:=⟨_,rfl⟩;obtain⟨mb,hmb⟩:∃mb,w.heap.size=mb:=⟨_,rfl⟩;have hb1:Below w.heap.size w V1:=by rw[←hV1];exact(Below.refl _ w).alloc (Nat.le_refl _) _
 have HN1:Hid (SAdd mb m V1):=by show SAdd mb m V1;unfold SAdd;rw[←hV1,←hmb];exact zBv _ _
 have HK1:Hid (KAt B V1 p room v h):=K.below hb1;have HB1:Hid (Below w.heap.size w V1):=hb1;have HMK:Hid (∀k,KF p v k→k<mb):=fun k hk=>by
  rcases hk with rfl|hk
  · have:=K.lt;omega
  · have:=K.row.lt hk;omega
 have HKP:Hid (Kp room.toNat out h):=KP;have HMB:Hid (w.heap.size=mb):=hmb;have HLO:=KP.same_len;have c0:=HK1.out.c0;have HL:∀q,Calls Tryz.prog 124 #[.pointer (some ⟨p,0,none⟩)] (V1.drewN q) fun e w'=>e = .returned (.int .i64 h.length)∧w'=V1.drewN q:=fun q=>zLm B (V1.drewN q) p room v h (HK1.out.below (belowN (Below.refl _ _) q))
 obtain⟨n,hn⟩:∃n,h.length=n:=⟨_,rfl⟩;have HN:Hid (h.length=n):=hn;rw[hn]at HL;unfold valM;clear K KP hb1;by_cases c:(n:Int)≥room
 · have hcb:decide ((n:Int)≥room)=true:=decide_eq_true c
   have hc2:room≤(n:Int):=c;by_cases hn0:n=0
   · subst hn0
     have HH:Hid (h=[]):=List.length_eq_zero_iff.1 HN.out;have HO:Hid (out=[]):=List.length_eq_zero_iff.1 (by have:=HLO;have:=HN.out;omega);(have HWB:Hid (zIl room.toNat out m=false):=by show _=_;rw[HO.out];exact zRn m (by omega));(have HT:Hid (room.toNat=0):=by show room.toNat=0;omega);have HWO:Hid (∀W,KAt B W p room v h→Calls Tryz.prog 125 #[.pointer (some ⟨p,0,none⟩)] W fun e w'=>e = .returned (.tuple #[valM (el h 0),.bool false])∧Below W.heap.size W w'):=fun W hW=>by
      have:=zNq B W p room v h hW;rw[HN.out]at this;exact this
     have hc3:decide (room≤0)=true:=decide_eq_true (by omega);(have hc4:room≤0:=by omega);clear HLO hn;go_enter Tryz.func84,Tryz.ntmps84;go_wp2_with fail;go_quiet ((go_at_call 124;exact Calls.quiet_of_same (HL _)));obtain⟨wz,hwz⟩:∃wz,wz=V1.drewN nq:=⟨_,rfl⟩;(have HBZ:Hid (Below V1.heap.size V1 wz):=by show Below _ _ _;rw[hwz];exact belowN (Below.refl _ _) nq);have HKZ:Hid (KAt B wz p room v h):=HK1.out.below HBZ.out;(have HSZ:Hid (SAdd mb m wz):=by show SAdd mb m wz;rw[hwz];exact HN1.out);have HUZ:Hid (Upd (KF p v) w wz):=(zAk HB1.out).trans (G:=fun _=>False) (zAk HBZ.out) (fun _ _ f=>f.elim);rw[←hwz];clear hwz HL c0;clear hV1 hmb;(go_upto_region 2 with fail);go_wp2_with (go_at_call 125;refine(HWO.out wz HKZ.out).mono ?_;rintro e w2 ⟨rfl,hb2⟩;obtain⟨W3,hst,H3,lm,lx⟩:=zFa HKZ.out HSZ.out HUZ.out hb2 (el h 0);clear hb2);go_ret;exact⟨by rw[HWB.out];rfl,⟨v,h,H3.out.1,by rw[HT.out,stp_zero,HH.out];exact Kp.nil 0,.inl rfl⟩,H3.out.2.2⟩
   · have HWO:Hid (∀W,KAt B W p room v h→Calls Tryz.prog 125 #[.pointer (some ⟨p,0,none⟩)] W fun e w'=>e = .returned (.tuple #[valM (el h 0),.bool true])∧Below W.heap.size W w'):=fun W hW=>by
      have:=zNq B W p room v h hW;rw[decide_eq_true (by have:=HN.out;omega)]at this;exact this
     (have HBE:Hid (∀W,Calls Tryz.prog 126 #[valM m,valM (el h 0)] W fun e w'=>e = .returned (.bool (btr m (el h 0)))∧Below W.heap.size W w'):=fun W=>zJv m (el h 0) W);obtain⟨ini,hini⟩:=HKP.out.worst (by have:=HN.out;omega);have HIN:Hid (out=ini++[el h 0]):=hini;have HRT:Hid (room.toNat=ini.length+1∧n=ini.length+1):=by
      have h1:=HKP.out.len;rw[hini,List.length_append,List.length_singleton]at h1;rw[hini,List.length_append,List.length_singleton]at HLO;have:=HN.out;exact⟨by omega,by omega⟩
     obtain⟨bt,hbt⟩:∃b,btr m (el h 0)=b:=⟨_,rfl⟩;have HBT:Hid (btr m (el h 0)=bt):=hbt;(have HWB:Hid (zIl room.toNat out m=bt):=by show _=_;rw[HIN.out,zRp m HRT.out.1];exact hbt);rw[hbt]at HBE;clear HLO hn hini hbt;cases bt
     · have HST:Hid (stp room.toNat out m=out):=by
        show _=_;have:=HKP.out.srt;rw[HIN.out]at this ⊢;exact stp_no m this HRT.out.1 HBT.out
       go_enter Tryz.func84,Tryz.ntmps84;go_wp2_with fail;go_quiet ((go_at_call 124;exact Calls.quiet_of_same (HL _)));obtain⟨wz,hwz⟩:∃wz,wz=V1.drewN nq:=⟨_,rfl⟩;(have HBZ:Hid (Below V1.heap.size V1 wz):=by show Below _ _ _;rw[hwz];exact belowN (Below.refl _ _) nq);have HKZ:Hid (KAt B wz p room v h):=HK1.out.below HBZ.out;(have HSZ:Hid (SAdd mb m wz):=by show SAdd mb m wz;rw[hwz];exact HN1.out);have HUZ:Hid (Upd (KF p v) w wz):=(zAk HB1.out).trans (G:=fun _=>False) (zAk HBZ.out) (fun _ _ f=>f.elim);rw[←hwz];clear hwz HL c0;clear hV1 hmb
       go_wp2_with (first
        |(go_at_call 125;refine(HWO.out wz HKZ.out).mono ?_;rintro e w2 ⟨rfl,hb2⟩;obtain⟨W3,hst,H3,lm,lx⟩:=zFa HKZ.out HSZ.out HUZ.out hb2 (el h 0);clear hb2)
        |(go_at_call 126;refine(HBE.out W3).mono ?_;rintro e w4 ⟨rfl,hb4⟩;have HB4:Hid (Below W3.heap.size W3 w4):=hb4;clear hb4))
       go_ret;exact⟨by rw[HWB.out];rfl,⟨v,h,H3.out.1.below HB4.out,by rw[HST.out];exact HKP.out,.inl rfl⟩,H3.out.2.2.trans (G:=fun _=>False) (zAk HB4.out) (fun _ _ f=>f.elim)⟩
     · have HST:Hid (stp room.toNat out m=ins m ini):=by
        show _=_;rw[HIN.out];exact stp_yes m HRT.out.1 HBT.out
       go_enter Tryz.func84,Tryz.ntmps84;go_wp2_with fail;go_quiet ((go_at_call 124;exact Calls.quiet_of_same (HL _)));obtain⟨wz,hwz⟩:∃wz,wz=V1.drewN nq:=⟨_,rfl⟩;(have HBZ:Hid (Below V1.heap.size V1 wz):=by show Below _ _ _;rw[hwz];exact belowN (Below.refl _ _) nq);have HKZ:Hid (KAt B wz p room v h):=HK1.out.below HBZ.out;(have HSZ:Hid (SAdd mb m wz):=by show SAdd mb m wz;rw[hwz];exact HN1.out);have HUZ:Hid (Upd (KF p v) w wz):=(zAk HB1.out).trans (G:=fun _=>False) (zAk HBZ.out) (fun _ _ f=>f.elim);rw[←hwz];clear hwz HL c0;clear hV1 hmb
       go_upto_region 6 with(first
        |(go_at_call 125;refine(HWO.out wz HKZ.out).mono ?_;rintro e w2 ⟨rfl,hb2⟩;obtain⟨W3,hst,H3,lm,lx⟩:=zFa HKZ.out HSZ.out HUZ.out hb2 (el h 0);clear hb2)
        |(go_at_call 126;refine(HBE.out W3).mono ?_;rintro e w4 ⟨rfl,hb4⟩;have HB4:Hid (Below W3.heap.size W3 w4):=hb4;clear hb4)
        |(go_at_call 127;refine(zFe B w4 p room v h (n-1) (H3.out.1.below HB4.out) HKP.out.hp (by have:=HN.out;omega) (by have:=HN.out;have:=HRT.out;omega)).mono ?_;rintro e w5 ⟨rfl,v5,h5,hK5,hu5,hx5,hp5,hh5,hl5⟩))
       have HPU:Hid (Calls Tryz.prog 128 #[zGd p,.iface 74 (valM m)] w5.drew fun e w'=>e = .returned (.tuple #[])∧SAdd mb m w'∧AddSays B w w' p room v out m):=by
        have hu4:=H3.out.2.2.trans (G:=fun _=>False) (zAk HB4.out) (fun _ _ f=>f.elim);refine zRi hK5 hh5 (by have:=HRT.out;omega) hx5 (hu4.trans hu5 (fun _ _ f=>f)) ?_ HMK.out (fun h' hp' hh'=>?_)
        · have h4:SAdd mb m w4:=by
           unfold SAdd;rw[HB4.out.block mb (Array.getElem?_eq_some_iff.1 H3.out.2.1).1];exact H3.out.2.1
          unfold SAdd;rw[hu5.block mb (Array.getElem?_eq_some_iff.1 h4).1 (fun f=>by have:=HMK.out mb f;omega)];exact h4
        · have K1:=HKP.out
          rw[HIN.out]at K1;have K2:Kp room.toNat ini h5:=K1.less hh5 hp5;rw[HST.out];exact K2.add m (by have:=HRT.out;omega) hh' hp'
       have HSZ2:Hid (SAdd mb m w5):=by
        have h4:SAdd mb m w4:=by
         unfold SAdd;rw[HB4.out.block mb (Array.getElem?_eq_some_iff.1 H3.out.2.1).1];exact H3.out.2.1
        show SAdd mb m w5;unfold SAdd;rw[hu5.block mb (Array.getElem?_eq_some_iff.1 h4).1 (fun f=>by have:=HMK.out mb f;omega)];exact h4
       clear HSZ HUZ HKZ HBZ hK5 hu5 hx5 hp5 hh5 hl5 lm lx hst;refine zAf (S:=SAdd mb m) 7 rfl zMl (show SAdd mb m w5.drew from HSZ2.out) (fun _=>?_);refine tq4 SAdd.facts 0 29 1 30 2 31 3 32 ?_;simp only[sZa,sZb,sZc];refine tq2 SAdd.facts 4 33 5 34 ?_;simp only[sZa,sZb,sZc];refine zFm (i:=6) (w0:=w5.drew) 35 128 #[zGd p,.iface 74 (valM m)] (by kernel_rfl) rfl rfl (by rfl) (by kernel_rfl) (HPU.out.mono ?_);rintro e wy ⟨rfl,hSy,hA⟩;refine⟨_,rfl,hSy,fun _=>?_⟩;simp only[sZa,sZb,sZc];refine wpAnyH_done (by kernel_rfl) ?_ _;go_wp2;go_ret;exact⟨by rw[HWB.out];rfl,hA⟩
 · have hcb:decide ((n:Int)≥room)=false:=decide_eq_false c
   have hc2:¬room≤(n:Int):=c;have HWB:Hid (zIl room.toNat out m=true):=zRo m (by have:=HN.out;omega);(have HLT:Hid (out.length<room.toNat):=by have:=HN.out;show out.length<room.toNat;omega);clear HLO hn;go_enter Tryz.func84,Tryz.ntmps84;go_wp2_with fail;go_quiet ((go_at_call 124;exact Calls.quiet_of_same (HL _)));obtain⟨wz,hwz⟩:∃wz,wz=V1.drewN nq:=⟨_,rfl⟩;(have HBZ:Hid (Below V1.heap.size V1 wz):=by show Below _ _ _;rw[hwz];exact belowN (Below.refl _ _) nq);have HKZ:Hid (KAt B wz p room v h):=HK1.out.below HBZ.out;(have HSZ:Hid (SAdd mb m wz):=by show SAdd mb m wz;rw[hwz];exact HN1.out);have HUZ:Hid (Upd (KF p v) w wz):=(zAk HB1.out).trans (G:=fun _=>False) (zAk HBZ.out) (fun _ _ f=>f.elim);rw[←hwz];clear hwz HL c0;go_upto_region 6 with fail
   have HPU:Hid (Calls Tryz.prog 128 #[zGd p,.iface 74 (valM m)] wz.drew fun e w'=>e = .returned (.tuple #[])∧SAdd mb m w'∧AddSays B w w' p room v out m):=
    zRi HKZ.out HKP.out.hp (by have:=HN.out;omega) rfl HUZ.out HSZ.out HMK.out (fun h' hp' hh'=>by rw[stp_room m HLT.out];exact HKP.out.add m HLT.out hh' hp')
   refine zAf (S:=SAdd mb m) 7 rfl zMl (show SAdd mb m wz.drew from HSZ.out) (fun _=>?_);refine tq4 SAdd.facts 0 29 1 30 2 31 3 32 ?_;simp only[sZa,sZb,sZc];refine tq2 SAdd.facts 4 33 5 34 ?_;simp only[sZa,sZb,sZc];refine zFm (i:=6) (w0:=wz.drew) 35 128 #[zGd p,.iface 74 (valM m)] (by kernel_rfl) rfl rfl (by rfl) (by kernel_rfl) (HPU.out.mono ?_);rintro e wy ⟨rfl,hSy,hA⟩;refine⟨_,rfl,hSy,fun _=>?_⟩;simp only[sZa,sZb,sZc];refine wpAnyH_done (by kernel_rfl) ?_ _;go_wp2;go_ret;exact⟨by rw[HWB.out];rfl,hA⟩
end Bt
end
section
open Go.RowKit Go.Lib Nums Pm
namespace Bt
theorem zU5(a b c:Value)(n:Nat):(madeCells #[a,b,c] (n*3)).toList=(List.replicate n [a,b,c]).flatten:=by
 apply List.ext_getElem?;intro q;by_cases hq:q<n*3
 · have e:q=(q/3)*3+q%3:=by omega
   have h3:q%3<3:=Nat.mod_lt _ (by decide);(have h1:(List.replicate n [a,b,c])[q/3]?=some [a,b,c]:=by rw[List.getElem?_replicate,if_pos (by omega)]);obtain⟨u,hu⟩:∃u,[a,b,c][q%3]?=some u:=⟨[a,b,c][q%3],List.getElem?_eq_getElem (by simpa using h3)⟩;have h2:=zHb (k:=3) (List.replicate n [a,b,c]) (fun x hx=>by rw[List.eq_of_mem_replicate hx];rfl) (q/3) (q%3) _ u h1 hu;rw[←e]at h2;rw[h2];(have h4:q%3=0∨q%3=1∨q%3=2:=by omega);simp only[madeCells];rcases h4 with h4|h4|h4<;>rw[h4]at hu<;>simp[hq,h4]at hu ⊢<;>exact hu
 · rw[List.getElem?_eq_none (by simp[madeCells];omega),List.getElem?_eq_none (by simp;omega)]
structure TkR(B:Nat)(w:World)(p:Nat)(room:Int)(v:Value)(out:List Mt)(lb n k:Nat)(wr:World)(h:List Mt)(vk:Value)(xs:List (List Value)):Prop where
 K:KAt B wr p room vk h
 own:vk.ownBlock=v.ownBlock
 kp:Kp room.toNat (out.take k) h
 row:GOwn 74 3 w.heap.size wr (.slice (some ⟨lb,0,none⟩) n n) xs
 len:xs.length=n
 dn:xs.drop k=(out.drop k).map cellsM
 up:Upd (KF p v) w wr
 lbg:w.heap.size≤lb
 hlt:∀k,KF p v k→k<w.heap.size
theorem TkR.put{B:Nat}{w:World}{p:Nat}{room:Int}{v:Value}{out:List Mt}{lb n k:Nat}{wr w1:World}{h h1:List Mt}{vk v1:Value}{xs:List (List Value)}(R:TkR B w p room v out lb n (k+1) wr h vk xs)(hout:out.length=n)(hkn:k<n)
 (K1:KAt B w1 p room v1 h1) (u1:Upd (KF p vk) wr w1) (hx1:v1.ownBlock=vk.ownBlock) (hp1:(el h 0::h1).Perm h) (hh1:Hp h1.length h1):
 ∃W,zC9 Tryz.prog (.pointer (some ⟨lb,k*3,none⟩)) (valM (el h 0)) w1 = .ok () W∧TkR B w p room v out lb n k W h1 v1 (xs.set k (cellsM (el h 0))):=by
 have hlb:∀j,KF p v j→¬j=lb:=fun j hj=>by have:=R.hlt j hj;have:=R.lbg;omega
 have e1:KF p vk=KF p v:=by funext j;unfold KF;rw[R.own]
 have e2:KF p v1=KF p v:=by funext j;unfold KF;rw[hx1,R.own]
 rw[e1]at u1;have hrow1:GOwn 74 3 w.heap.size w1 (.slice (some ⟨lb,0,none⟩) n n) xs:=GOwn.upd R.row u1 (fun g hg f=>hlb g f (by simpa[Value.ownBlock]using hg.symm));have hput:=GOwn.put hrow1 R.len.symm k (by rw[R.len];exact hkn) (cellsM (el h 0)) (cellsM_ok _);obtain⟨g,cap,hv,_,_,_,hc⟩:=hrow1.cell (by rw[R.len];omega);simp only[Value.slice.injEq,Option.some.injEq,Addr.mk.injEq,and_true]at hv;obtain⟨rfl,_,_⟩:=hv;obtain⟨x,hxk⟩:∃x,xs[k]?=some x:=⟨_,List.getElem?_eq_getElem (by rw[R.len];exact hkn)⟩;have hck:=(R.row.1 x (List.mem_of_getElem? hxk)).1;obtain⟨y0,y1,y2,rfl⟩:∃a b c,x=[a,b,c]:=by
  match x,hck with
  |[a,b,c],_=>exact⟨a,b,c,rfl⟩
 have hf:∀j,w1.frozen? ⟨lb,j,none⟩=false:=fun j=>by
  have:=hrow1.2;rw[R.len]at this;exact this.frozenAt j
 obtain⟨ini,hini⟩:=R.kp.worst (by have:=R.kp.same_len;rw[List.length_take]at this;omega);have hlen:(out.take (k+1)).length=k+1:=by rw[List.length_take];omega
 have hil:ini.length=k:=by rw[hini]at hlen;simpa using hlen
 have htk:out.take k=ini:=by
  have:(out.take (k+1)).take k=ini:=by rw[hini];exact List.take_left' hil
  rw[List.take_take,Nat.min_eq_left (by omega)]at this;exact this
 have hel:out[k]?=some (el h 0):=by
  have:(out.take (k+1))[k]?=some (el h 0):=by rw[hini,List.getElem?_append_right (by omega),hil];simp
  rwa [List.getElem?_take,if_pos (by omega)]at this
 have hupd:Upd (fun j=>j=lb) w1 (w1.setCells lb (k*3) (cellsM (el h 0))):=Upd.setCells (F:=fun j=>j=lb) rfl _ _ (Upd.refl _ _);have hu2:Upd (KF p v) w w1:=R.up.trans u1 (fun _ _ f=>f);refine⟨_,zC8 (hc k 0 _ _ hxk rfl) (hc k 1 _ _ hxk rfl) (hc k 2 _ _ hxk rfl) (hf _) (hf _) (hf _),⟨K1.upd hupd (fun j hj=>hlb j (e2▸hj)),hx1.trans R.own,?_,hput,by rw[List.length_set];exact R.len,?_,?_,R.lbg,R.hlt⟩⟩
 · rw[htk]
   have:=R.kp;rw[hini]at this;exact this.less hh1 hp1
 · have hd:xs.drop (k+1)=(out.drop (k+1)).map cellsM:=R.dn
   (have hk1:k<(xs.set k (cellsM (el h 0))).length:=by rw[List.length_set,R.len];exact hkn);(have hk2:k<out.length:=by omega);rw[List.drop_eq_getElem_cons hk1,List.drop_eq_getElem_cons hk2,List.getElem_set_self,List.drop_set_of_lt (by omega),hd,List.map_cons];(have:out[k]=el h 0:=by rw[List.getElem?_eq_getElem hk2]at hel;exact Option.some.inj hel);rw[this]
 · exact⟨hupd.os.trans hu2.os,hupd.tape.trans hu2.tape,hupd.output.trans hu2.output,Nat.le_trans hu2.size hupd.size,fun j hj hfj=>(hupd.block j (Nat.lt_of_lt_of_le hj hu2.size) (by have:=R.lbg;show ¬j=lb;omega)).trans (hu2.block j hj hfj)⟩
attribute [local go_sem ↓] zB8 zBu
theorem Take_any(B:Nat)(w:World)(p:Nat)(room:Int)(v:Value)(h out:List Mt)(K:KAt B w p room v h)(KP:Kp room.toNat out h)(hr:room≤64):
 Calls Tryz.prog 85 #[.pointer (some ⟨p,0,none⟩)] w fun e w'=>∃vl,e = .returned vl∧GOwn 74 3 w.heap.size w' vl (out.map cellsM)∧Upd (KF p v) w w'∧∃v',KAt B w' p room v' []∧v'.ownBlock=v.ownBlock:=by
 have hlo:=KP.same_len;have hlen:=KP.len;have HL:Hid (Calls Tryz.prog 124 #[.pointer (some ⟨p,0,none⟩)] w fun e w'=>e = .returned (.int .i64 h.length)∧w'=w):=zLm B w p room v h K;obtain⟨n,hn⟩:∃n,h.length=n:=⟨_,rfl⟩;rw[hn]at HL hlo;have HO:Hid (out.length=n):=hlo.symm;obtain⟨z,hz,hzs⟩:=rtyM.inf;obtain⟨i0,hi,hz0,hz1,hz2⟩:=info_parts hz;have hzz:z = .agg #[.string .empty,.int .i64 0,.int .i64 0]:=by
  have h1:(Tryz.prog.info? 74).map (fun i=>i.zero)=some (some (.agg #[.string .empty,.int .i64 0,.int .i64 0])):=by kernel_rfl
  rw[hi]at h1;simp only[Option.map_some,Option.some.injEq]at h1;rw[hz0]at h1;exact Option.some.inj h1
 have hn64:n≤64:=by omega
 obtain⟨W0,hmk,hown,hgr⟩:=run_make_full (P:=Tryz.prog) w w.heap.size 50 74 i0 z 3 rtyM.und hi hz0 hz1 .i64 .i64 n (by rw[hz2];omega) (by simp only[maxLen];omega) (Nat.le_refl _);have hb0:Below w.heap.size w W0:=(Below.refl _ w).grown hgr (Nat.le_refl _) (fun k e=>by cases e);obtain⟨lb,hlb⟩:∃lb,w.heap.size=lb:=⟨_,rfl⟩;have HR0:Hid (TkR B w p room v out lb n n W0 h v (List.replicate n (cellsM (.empty,0,0)))):=by
  have hlt:∀k,KF p v k→k<w.heap.size:=fun k hk=>by
   rcases hk with rfl|hk
   · exact K.lt
   · exact K.row.lt hk
  refine⟨K.below hb0,rfl,?_,⟨fun x hx=>?_,?_⟩,by simp,?_,zAk hb0,by omega,hlt⟩
  · rw[List.take_of_length_le (by omega)];exact KP
  · rw[List.eq_of_mem_replicate hx];exact cellsM_ok _
  · have e:=zU5 (.string .empty) (.int .i64 0) (.int .i64 0) n
    rw[hzz,hlb]at hown;rw[List.length_replicate];have e2:(Value.agg #[.string .empty,.int .i64 0,.int .i64 0]).cells=#[.string .empty,.int .i64 0,.int .i64 0]:=rfl;rw[e2,e]at hown;rw[hlb];exact hown
  · rw[List.drop_of_length_le (by simp),List.drop_of_length_le (by omega)];rfl
 rw[hlb]at hmk;have HN:Hid (h.length=n):=hn;clear K KP hlo hlen hn hz hzs hi hz0 hz1 hz2 hzz hown hgr hb0 hr;go_enter Tryz.func85,Tryz.ntmps85;go_wp2_with (go_at_call 124;refine HL.out.mono ?_;rintro e w2 ⟨rfl,hw2⟩;replace hw2:=hw2.symm;subst hw2);clear hmk
 go_loopg [4] n (fun g s4 wr=>∃(k:Nat) (h':List Mt) (vk:Value) (xs:List (List Value)),s4 = .int .i64 ((k:Int)-1)∧k≤n∧k≤g∧Hid (TkR B w p room v out lb n k wr h' vk xs))
 case atStart=>exact⟨n,h,v,_,by first|rfl|go_num,Nat.le_refl _,Nat.le_refl _,HR0⟩
 case round=>
  obtain⟨k,h',vk,xs,hs4,hkn,hkg,HR⟩:=hrel;cases k with
  |zero=>
   (have e:u4 = .int .i64 (-1):=by rw[hs4];rfl);subst e;clear hs4;go_wp2;go_ret;(have hx:xs=out.map cellsM:=by have:=HR.out.dn;rwa [List.drop_zero,List.drop_zero]at this);have hh:h'=[]:=List.length_eq_zero_iff.1 (by have:=HR.out.kp.same_len;rw[List.take_zero]at this;simpa using this);have hrow:=HR.out.row;have hK:=HR.out.K;rw[hx]at hrow;rw[hh]at hK;exact⟨_,rfl,hrow,HR.out.up,vk,hK,HR.out.own⟩
  |succ j=>
   (have e:u4 = .int .i64 (j:Int):=by rw[hs4];congr 1;omega);subst e;clear hs4;(have hjn:(j:Int)<(n:Int):=by omega);(have hl':h'.length=j+1:=by have:=HR.out.kp.same_len;rw[List.length_take]at this;have:=HO.out;omega);have HTW:Hid (Calls Tryz.prog 127 #[.pointer (some ⟨p,0,none⟩)] wr fun e w'=>e = .returned (valM (el h' 0))∧∃v' h2,KAt B w' p room v' h2∧Upd (KF p vk) wr w'∧v'.ownBlock=vk.ownBlock∧(el h' 0::h2).Perm h'∧Hp h2.length h2∧h2.length=j):=zFe B wr p room vk h' j HR.out.K HR.out.kp.hp hl' (by omega);clear hl';go_wp2_with (go_at_call 127;refine HTW.out.mono ?_;rintro e w1 ⟨rfl,v1,h1,hK1,hu1,hx1,hp1,hh1,hl1⟩;obtain⟨W,hst,hR⟩:=HR.out.put HO.out (by omega) hK1 hu1 hx1 hp1 hh1;have HR1:Hid (TkR B w p room v out lb n j W h1 v1 (xs.set j (cellsM (el h' 0)))):=hR;clear hK1 hu1 hx1 hp1 hh1 hl1 hR);go_roundg j;(case measure=>omega);case rel=>exact⟨j,h1,v1,_,by first|rfl|go_num,by omega,Nat.le_refl _,HR1⟩
end Bt
end
section
open Go.RowKit Go.Lib Nums Pm
namespace Bt
def MRow(w:World)(v:Value)(l:List Mt):Prop:=GRow w.heap.size 3 w v (l.map cellsM)
theorem MRow.below{w w':World}{v:Value}{l:List Mt}(h:MRow w v l)(hb:Below w.heap.size w w'):MRow w' v l:=(GRow.below h hb).mono hb.size
theorem MRow.form{w:World}{v:Value}{l:List Mt}(h:MRow w v l):∃ad cap,v = .slice ad l.length cap:=by
 obtain⟨ad,cap,e⟩:=GRow.shape h;exact⟨ad,cap,by rw[e,List.length_map]⟩
theorem MRow.at{w:World}{ad:Option Addr}{n cap:Nat}{l:List Mt}(h:MRow w (.slice ad n cap) l)(h0:0<l.length):∃g off,ad=some ⟨g,off,none⟩∧g<w.heap.size∧∀k x,l[k]?=some x→w.cell? ⟨g,off+k*3,none⟩=some (.string x.1)∧w.cell? ⟨g,off+k*3+1,none⟩=some (.int .i64 x.2.1)∧w.cell? ⟨g,off+k*3+2,none⟩=some (.int .i64 x.2.2):=by
 obtain⟨ad',cap',hv,hc⟩:=h.ex;simp only[Value.slice.injEq]at hv;obtain⟨g,off,rfl,hg,hx⟩:=hc (by rw[List.length_map];omega);refine⟨g,off,hv.1,hg,fun k x hk=>?_⟩;have e:(l.map cellsM)[k]?=some (cellsM x):=by rw[List.getElem?_map,hk];rfl
 exact⟨hx k 0 _ _ e rfl,hx k 1 _ _ e rfl,hx k 2 _ _ e rfl⟩
theorem MRow.load{w:World}{ad:Option Addr}{n cap:Nat}{l:List Mt}(h:MRow w (.slice ad n cap) l){k:Nat}{x:Mt}(hk:l[k]?=some x):∃g off,ad=some ⟨g,off,none⟩∧g<w.heap.size∧zFo Tryz.prog (.pointer (some ⟨g,off+k*3,none⟩)) w = .ok (valM x) w:=by
 obtain⟨g,off,rfl,hg,hc⟩:=h.at (by have:=(List.getElem?_eq_some_iff.1 hk).1;omega);obtain⟨c0,c1,c2⟩:=hc k x hk;exact⟨g,off,rfl,hg,zDp c0 c1 c2⟩
def kk(k:Int):Nat:=(min k 64).toNat
theorem zS0(k:Nat)(l:List Mt)(j:Nat)(x:Mt)(hx:l[j]?=some x):bestF k (l.take (j+1))=stp k (bestF k (l.take j)) x:=by
 obtain⟨hj,e⟩:=List.getElem?_eq_some_iff.1 hx;rw[List.take_succ_eq_append_getElem hj,zS1,e]
structure SeR(w:World)(p:Nat)(k:Int)(l:List Mt)(j:Nat)(wr:World)(h:List Mt)(vk:Value):Prop where
 K:KAt w.heap.size wr p (min k 64) vk h
 kp:Kp (kk k) (bestF (kk k) (l.take j)) h
 bel:Below w.heap.size w wr
theorem SeR.step{w:World}{p:Nat}{k:Int}{l:List Mt}{j:Nat}{wr W w':World}{h:List Mt}{vk:Value}{x:Mt}(R:SeR w p k l j wr h vk)(hb:Below wr.heap.size wr W)(hx:l[j]?=some x)(A:AddSays w.heap.size W w' p (min k 64) vk (bestF (kk k) (l.take j)) x):∃h' v',SeR w p k l (j+1) w' h' v':=by
 obtain⟨v',h',hK,hkp,_⟩:=A.ex;refine⟨h',v',hK,?_,?_⟩
 · rw[zS0 _ _ _ _ hx];exact hkp
 · have hbW:Below w.heap.size w W:=R.bel.trans (hb.mono R.bel.size)
   exact hbW.trans (A.up.below (fun q hq=>KF.low R.K hq) hbW.size)
theorem zUs(w2:World)(x:Mt):
 ∃W3,zC9 Tryz.prog (.pointer (some ⟨w2.heap.size,0,none⟩)) (valM x) (w2.alloc (.cells #[.string ⟨#[]⟩,.int .i64 0,.int .i64 0] 74)) = .ok () W3∧Below w2.heap.size w2 W3∧zFo Tryz.prog (.pointer (some ⟨w2.heap.size,0,none⟩)) W3 = .ok (valM x) W3∧W3.heap[w2.heap.size]?=some (.cells (cellsM x).toArray 74):=by
 obtain⟨V3,hV3⟩:∃V3,w2.alloc (.cells #[.string ⟨#[]⟩,.int .i64 0,.int .i64 0] 74)=V3:=⟨_,rfl⟩;have hb3:Below w2.heap.size w2 V3:=by rw[←hV3];exact(Below.refl _ w2).alloc (Nat.le_refl _) _
 have hn3:V3.heap[w2.heap.size]?=some (.cells #[.string ⟨#[]⟩,.int .i64 0,.int .i64 0] 74):=by rw[←hV3];exact zBv _ _
 obtain⟨W3,hst,hu3,hc3⟩:=zD4 V3 w2.heap.size _ _ _ hn3 x;rw[hV3];exact⟨W3,hst,hb3.trans (hu3.below (B:=w2.heap.size) (fun k e=>by have:k=w2.heap.size:=e;omega) hb3.size),zKl hc3,hc3⟩
attribute [local go_sem ↓] zB8 zBu
theorem Select_any(w:World)(v:Value)(l:List Mt)(k:Int)(h:MRow w v l)(hl:l.length<4611686018427387904):
 Calls Tryz.prog 48 #[v,.int .i64 k] w fun e w'=>∃vl,e = .returned vl∧GOwn 74 3 w.heap.size w' vl ((bestF (kk k) l).map cellsM)∧Below w.heap.size w w':=by
 obtain⟨ad,cap,rfl⟩:=h.form;obtain⟨n,hn⟩:∃n,l.length=n:=⟨_,rfl⟩;rw[hn]at h hl ⊢;have HROW:Hid (MRow w (.slice ad n cap) l):=h;have HN:Hid (l.length=n):=hn;have HNEW:Hid (Calls Tryz.prog 83 #[.int .i64 k] w fun e w'=>e = .returned (.pointer (some ⟨w.heap.size,0,none⟩))∧KAt w.heap.size w' w.heap.size (min k 64) (.slice none 0 0) []∧Below w.heap.size w w'):=New_any w k;have hmf:∀(fn:Fn) (first cap:Array Value) (w:World),(Instr.makeFunc fn first cap).run Tryz.prog w = .ok (.func fn first cap) w:=fun _ _ _ _=>rfl
 obtain⟨p,hp⟩:∃p,w.heap.size=p:=⟨_,rfl⟩;rw[hp]at HNEW;have HP:Hid (w.heap.size=p):=hp;clear h hn hp;go_enter Tryz.func48,Tryz.ntmps48;go_wp2_with (go_at_call 83;refine HNEW.out.mono ?_;rintro e w1 ⟨rfl,hK1,hb1⟩;have HR0:Hid (∃h vk,SeR w p k l 0 w1 h vk):=⟨[],.slice none 0 0,by rw[HP.out];exact hK1,by rw[List.take_zero];exact Kp.nil _,by rw[HP.out];exact hb1⟩;clear hK1 hb1)
 go_loopg [15] n (fun g s15 wr=>∃(j:Nat),s15 = .int .i64 j∧j≤n∧n-j≤g∧Hid (∃h vk,SeR w p k l j wr h vk))
 case atStart=>exact⟨0,rfl,Nat.zero_le _,by omega,HR0⟩
 case round=>
  obtain⟨j,rfl,hjn,hg,HR⟩:=hrel;by_cases hlt:j<n
  · have hltz:(j:Int)<(n:Int):=by omega
    obtain⟨x,hx⟩:∃x,l[j]?=some x:=⟨l[j]'(by have:=HN.out;omega),List.getElem?_eq_getElem _⟩;obtain⟨h',vk,hR⟩:=HR.out;have HS:Hid (SeR w p k l j wr h' vk):=hR;obtain⟨g0,off,rfl,hg0,hld⟩:=(HROW.out.below hR.bel).load hx;obtain⟨W3,hst,hbW,hld2,_⟩:=zUs wr x;have HAD:Hid (Calls Tryz.prog 84 #[.pointer (some ⟨p,0,none⟩),valM x] W3 fun e w'=>e = .returned (.bool (zIl (kk k) (bestF (kk k) (l.take j)) x))∧AddSays w.heap.size W3 w' p (min k 64) vk (bestF (kk k) (l.take j)) x):=Add_any w.heap.size W3 p (min k 64) vk h' _ x (hR.K.below hbW) hR.kp (by omega);have HX:Hid (l[j]?=some x):=hx;have HBW:Hid (Below wr.heap.size wr W3):=hbW;clear hx hR hg0 hbW HR;go_wp2_with (go_at_call 84;refine HAD.out.mono ?_;rintro e w4 ⟨rfl,hA⟩;have HR4:Hid (∃h vk,SeR w p k l (j+1) w4 h vk):=HS.out.step HBW.out HX.out hA;clear hA);go_roundg (n-(j+1));(case measure=>omega);case rel=>exact⟨j+1,by go_num,by omega,Nat.le_refl _,HR4⟩
  · have hkn:j=n:=by omega
    subst hkn;obtain⟨h',vk,hR⟩:=HR.out;have HTK:Hid (Calls Tryz.prog 85 #[.pointer (some ⟨p,0,none⟩)] wr fun e w'=>∃vl,e = .returned vl∧GOwn 74 3 wr.heap.size w' vl ((bestF (kk k) (l.take j)).map cellsM)∧Upd (KF p vk) wr w'∧∃v',KAt w.heap.size w' p (min k 64) v' []∧v'.ownBlock=vk.ownBlock):=Take_any w.heap.size wr p (min k 64) vk h' _ hR.K hR.kp (by omega);have HE:Hid (l.take j=l):=List.take_of_length_le (by have:=HN.out;omega);have HS:Hid (SeR w p k l j wr h' vk):=hR;clear hR HR;go_wp2_with (go_at_call 85;refine HTK.out.mono ?_;rintro e w4 ⟨vl,rfl,hgo,hu4,_⟩);go_ret;refine⟨vl,rfl,?_,?_⟩
    · have:=hgo.mono (B':=w.heap.size) HS.out.bel.size
      rw[HE.out]at this;exact this
    · exact HS.out.bel.trans (hu4.below (fun q hq=>KF.low HS.out.K hq) HS.out.bel.size)
end Bt
end
section
open Go.RowKit Go.Lib Nums Pm
namespace Bt
end Bt
end
section
open Go.RowKit Nums Fm
theorem zU6{l:List Pr}(h:zAl l=0):∃D,Inv D (zAg l).2∧∀R,R∈D↔(ents l≠[]∧Sub (ents l) R):=by
 by_cases hl:l=[]
 · subst hl
   exact⟨[],Inv.nil,fun R=>⟨fun h=>(by cases h),fun h=>absurd rfl h.1⟩⟩
 · obtain⟨D,M⟩:=zCe 25 [] [] (ents l) Inv.nil (zCd h hl)
   rw[zAg,if_pos ⟨h,hl⟩];refine⟨D,M.inv,fun R=>⟨fun hR=>⟨zK6 hl,?_⟩,fun hR=>M.all R hR.2⟩⟩;rcases M.sub R hR with h|h
   · cases h
   · exact h
end
