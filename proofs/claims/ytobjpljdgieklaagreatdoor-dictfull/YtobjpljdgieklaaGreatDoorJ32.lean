import Derived.Test.YtobjpljdgieklaaGreatDoorJ30
import Derived.Test.YtobjpljdgieklaaGreatDoorJ24
import Derived.Test.YtobjpljdgieklaaGreatDoorJ29
set_option maxRecDepth 100000
namespace Go.Proofs.YtobjpljdgieklaaGreatDoor
section
open Go.RowKit Nums Fm Pk
structure SLn(wb g off k:Nat)(ws:Value)(c:Nat)(W:World):Prop where
 c2:W.cell? ⟨wb,2,none⟩=some ws
 cx:W.cell? ⟨g,off+k,none⟩=some (.int .i64 (c:Int))
theorem SLn.facts{wb g off k:Nat}{ws:Value}{c:Nat}{W:World}(h:SLn wb g off k ws c W):W.cell? ⟨wb,2,none⟩=some ws∧W.cell? ⟨g,off+k,none⟩=some (.int .i64 (c:Int)):=⟨h.1,h.2⟩
set_option maxHeartbeats 2000000 in
theorem Len_any(E:Nat)(w:World)(wb:Nat)(base:Int)(m:List RSt)(cs:List Nat)(h:WkAt E w wb base m cs)(hcs:cs.length=m.length):
 Calls Tryz.prog 58 #[.pointer (some ⟨wb,0,none⟩)] w fun e w'=>e = .returned (.int .i64 ((cs.getD (m.length-1) 0:Nat):Int))∧Below w.heap.size w w':=by
 have HRT:Hid (∀W,WkAt E W wb base m cs→Calls Tryz.prog 70 #[.pointer (some ⟨wb,0,none⟩)] W fun e w'=>e = .returned (.int .i64 ((m.length:Int)-1))∧w'=W):=fun W hW=>zHp E W wb base m cs hW
 by_cases h0:m=[]
 · subst h0
   have HH:Hid (WkAt E w wb base [] cs):=h;have HC:Hid (cs=[]):=List.eq_nil_of_length_eq_zero hcs;clear h hcs;go_enter Tryz.func58,Tryz.ntmps58;go_wp2_with (go_at_call 70;refine(HRT.out _ HH.out).mono ?_;rintro e w1 ⟨rfl,hw1⟩;rw[hw1];clear hw1);go_ret;exact⟨by rw[HC.out];rfl,Below.refl _ _⟩
 · have hpos:=List.length_pos_iff.2 h0
   obtain⟨sd,sc,wd,wc,c0,c1,c2,hS,hG⟩:=h.facts;obtain⟨k,hk⟩:∃k,m.length=k+1:=⟨m.length-1,by omega⟩;obtain⟨c,hc⟩:∃c,cs[k]?=some c:=⟨cs[k]'(by omega),List.getElem?_eq_getElem _⟩;obtain⟨g,off,rfl,hg,cx⟩:=hG.num hc;have hl:=hS.len;have HW:Hid (WkAt E w wb base m cs):=h;have HWd:Hid (WkAt E w.drew wb base m cs):=h.below (Below.refl _ w).drew;have hS0:SLn wb g off k (.slice (some ⟨g,off,none⟩) cs.length wc) c w.drew:=⟨c2,cx⟩;have HCC:Hid (cs.getD (m.length-1) 0=c):=by
    show _=_;rw[hk,Nat.add_sub_cancel,List.getD_eq_getElem?_getD,hc];rfl
   have HBW:Hid (Below w.heap.size w w.drew):=(Below.refl _ w).drew;rw[hcs,hk]at hS0;rw[hk]at HRT;(have hkz:((k+1:Nat):Int)-1=(k:Int):=by omega);rw[hkz]at HRT;(have hl2:k+1≤9223372036854775807:=by omega);(have hkz2:(k:Int)<(k:Int)+1:=by omega);clear hG hS c0 c1 c2 cx h hl;go_enter Tryz.func58,Tryz.ntmps58;(go_upto_region 3 with(go_at_call 70;refine(HRT.out _ HW.out).mono ?_;rintro e w1 ⟨rfl,hw1⟩;rw[hw1];clear hw1));refine zAd (S:=SLn wb g off k (.slice (some ⟨g,off,none⟩) (k+1) wc) c) 9 rfl zAo hS0 (fun _=>?_);refine tq4 SLn.facts 0 6 1 7 2 8 3 9 ?_;simp only[sZa,sZb,sZc];refine tq SLn.facts 4 10 ?_;simp only[sZa,sZb,sZc];refine zAe (i:=5) (w0:=w.drew) 11 70 #[.pointer (some ⟨wb,0,none⟩)] (by kernel_rfl) rfl rfl (by rfl) (by kernel_rfl) ?_;refine(HRT.out _ HWd.out).mono ?_;rintro e w1 ⟨rfl,hw1⟩;subst hw1;refine⟨_,rfl,hS0,fun _=>?_⟩;simp only[sZa,sZb,sZc];refine tq2 SLn.facts 6 12 7 13 ?_;simp only[sZa,sZb,sZc];refine tq SLn.facts 8 2 ?_;simp only[sZa,sZb,sZc];clear hkz2;refine wpAnyH_done (by kernel_rfl) ?_ _;clear hS0;go_wp2;go_ret;exact⟨by rw[HCC.out];rfl,HBW.out⟩
end
section
open Go.RowKit Nums Fm Pk
structure SU(g k:Nat)(s t:RSt)(va vb:Value)(w0 w:World):Prop where
 a0:w.cell? ⟨g,k*3,none⟩=some (.bool s.final)
 a1:w.cell? ⟨g,k*3+1,none⟩=some (.int .i64 s.out)
 a2:w.cell? ⟨g,k*3+2,none⟩=some va
 b0:w.cell? ⟨g,(k+1)*3,none⟩=some (.bool t.final)
 b1:w.cell? ⟨g,(k+1)*3+1,none⟩=some (.int .i64 t.out)
 b2:w.cell? ⟨g,(k+1)*3+2,none⟩=some vb
 gr:Gr w0 w
theorem SU.facts{g k:Nat}{s t:RSt}{va vb:Value}{w0 w:World}(h:SU g k s t va vb w0 w):w.cell? ⟨g,k*3,none⟩=some (.bool s.final)∧w.cell? ⟨g,k*3+1,none⟩=some (.int .i64 s.out)∧w.cell? ⟨g,k*3+2,none⟩=some va∧w.cell? ⟨g,(k+1)*3,none⟩=some (.bool t.final)∧w.cell? ⟨g,(k+1)*3+1,none⟩=some (.int .i64 t.out)∧w.cell? ⟨g,(k+1)*3+2,none⟩=some vb:=⟨h.a0,h.a1,h.a2,h.b0,h.b1,h.b2⟩
theorem SU.grow{g k:Nat}{s t:RSt}{va vb:Value}{w0 w w':World}(h:SU g k s t va vb w0 w)(hg:g<w0.heap.size)(hr:Gr w w'):SU g k s t va vb w0 w':=by
 have e:∀j,w'.cell? ⟨g,j,none⟩=w.cell? ⟨g,j,none⟩:=fun j=>hr.bel.cell (p:=⟨g,j,none⟩) (Nat.lt_of_lt_of_le hg h.gr.bel.size)
 exact⟨(e _).trans h.a0,(e _).trans h.a1,(e _).trans h.a2,(e _).trans h.b0,(e _).trans h.b1,(e _).trans h.b2,h.gr.trans hr⟩
set_option maxHeartbeats 4000000 in
theorem zRz(E:Nat)(w:World)(m:List RSt)(vs:Value)(h:StsAt E w vs m)(hE:E≤w.heap.size)(hF:zA5 0 m=true)(hm:m.length≤1048576)(h0:m≠[]):
 Calls Tryz.prog 106 #[vs] w fun e w'=>e = .returned (.bool (decide m.Nodup))∧Below w.heap.size w w':=by
 obtain⟨xss,hR,hxl,hx⟩:=h.ex;have hX:StX E w xss m:=⟨hxl,hx,fun s hs=>by
  obtain⟨i,hi,rfl⟩:=List.getElem_of_mem hs;have:=zHh m 0 i _ hF (List.getElem?_eq_getElem hi);exact(zEu this).2.2⟩
 obtain⟨ad,cap,rfl⟩:=h.shape;have hpos:=List.length_pos_iff.2 h0;obtain⟨n,hn⟩:∃n,m.length=n+1:=⟨m.length-1,by omega⟩;have HN:Hid (m.length=n+1):=hn;have HX:Hid (StX E w xss m):=hX;have HCL:Hid (Calls Tryz.prog 145 #[.slice ad (n+1) cap] w fun e w'=>∃g cap,e = .returned (.slice (some ⟨g,0,none⟩) (n+1) cap)∧GOwn 91 3 w.heap.size w' (.slice (some ⟨g,0,none⟩) (n+1) cap) xss∧Below w.heap.size w w'):=by
  have:=zS6 E w xss m _ hR hX h0 hm;rw[hn]at this;exact this
 have HSO:Hid (∀w1 g cap,GOwn 91 3 w.heap.size w1 (.slice (some ⟨g,0,none⟩) (n+1) cap) xss→Below w.heap.size w w1→Calls Tryz.prog 146 #[.slice (some ⟨g,0,none⟩) (n+1) cap,.func (.func 147) #[] #[]] w1 fun e w'=>e = .returned (.tuple #[])∧∃d:Array Nat,d.size=m.length∧d.toList.Perm (List.range m.length)∧Go.Sort.SortedIn (ltOf (cfS m)) 0 m.length d∧Go.Sort.HoldsK (encS xss) 3 w' g 0 d∧Below w.heap.size w1 w'):=fun w1 g cap ho hb=>by
  have:=zUc E w.heap.size w1 xss m g cap (by rw[hn];exact ho) (hX.below (hb.mono hE)) hE hb.size h0 hm;rw[hn]at this ⊢;exact this
 rw[hn]at hm ⊢;clear h hR hxl hx hX hn hF;go_enter Tryz.func106,Tryz.ntmps106;go_upto_region 2 with(go_at_call 145;refine HCL.out.mono ?_;rintro e w1 ⟨g,gc,rfl,ho1,hb1⟩;have HO1:Hid (GOwn 91 3 w.heap.size w1 (.slice (some ⟨g,0,none⟩) (n+1) gc) xss):=ho1;have HB1:Hid (Below w.heap.size w w1):=hb1;clear ho1 hb1)
 go_upto_region 3 with(go_at_call 146;refine(HSO.out w1 g gc HO1.out HB1.out).mono ?_;rintro e w2 ⟨rfl,d,hd1,hd2,hd3,hd4,hb2⟩)
 have hgc:n+1≤gc:=by
  obtain⟨_,c',e,hc⟩:=HO1.out.shape;simp only[Value.slice.injEq]at e;omega
 have hgw:g<w2.heap.size:=Nat.lt_of_lt_of_le (HO1.out.lt (g:=g) rfl) hb2.size;have HBW:Hid (Below w.heap.size w w2):=HB1.out.trans (hb2.mono (Nat.le_refl _));have HD:Hid (d.size=m.length∧d.toList.Perm (List.range m.length)∧Go.Sort.SortedIn (ltOf (cfS m)) 0 m.length d∧Go.Sort.HoldsK (encS xss) 3 w2 g 0 d):=⟨hd1,hd2,hd3,hd4⟩;have HX2:Hid (StX E w2 xss m):=HX.out.below (HBW.out.mono hE);have hgcz:((n:Int)+1)≤(gc:Int):=by omega
 clear hd1 hd2 hd3 hd4 hb2;go_wp2
 all_goals
  go_loopg [4,12] n (fun gm _ s12 wr=>∃(k:Nat),s12 = .int .i64 k∧k≤n∧n-k≤gm∧Hid (∀i,i<k→cfS m d[i]! d[i+1]!≠0)∧Hid (Gr w2 wr))
  case atStart=>exact⟨0,rfl,Nat.zero_le _,by omega,fun i hi=>absurd hi (Nat.not_lt_zero _),Gr.refl _⟩
  case round=>
   obtain⟨k,rfl,hk,hgm,HA,HG⟩:=hrel;by_cases hlt:k<n
   · have hltz:(k:Int)<(n:Int):=by omega
     have hn1:=HN.out;have hds:=HD.out.1;obtain⟨va,ea,haa,hla,_⟩:=zEy HX2.out d[k]!;obtain⟨vb,eb,hbb,hlb,_⟩:=zEy HX2.out d[k+1]!;obtain⟨s,hs⟩:∃s,m.getD d[k]! zS=s:=⟨_,rfl⟩;obtain⟨t,ht⟩:∃t,m.getD d[k+1]! zS=t:=⟨_,rfl⟩;rw[hs]at ea haa hla;rw[ht]at eb hbb hlb;have hcell:∀(i c:Nat),i<d.size→c<3→wr.cell? ⟨g,i*3+c,none⟩=some (encS xss d[i]!)[c]!:=fun i c hi hc=>by
      have:=(HD.out.2.2.2.cell hi hc).1;rw[Nat.zero_add]at this;exact(HG.out.bel.cell (p:=⟨g,i*3+c,none⟩) hgw).trans this
     have hS:SU g k s t va vb w2 wr:=by
      have a0:=hcell k 0 (by omega) (by omega);have a1:=hcell k 1 (by omega) (by omega);have a2:=hcell k 2 (by omega) (by omega);have b0:=hcell (k+1) 0 (by omega) (by omega);have b1:=hcell (k+1) 1 (by omega) (by omega);have b2:=hcell (k+1) 2 (by omega) (by omega);rw[ea]at a0 a1 a2;rw[eb]at b0 b1 b2;exact⟨a0,a1,a2,b0,b1,b2,HG.out⟩
     obtain⟨vd,vc,hva⟩:=haa.shape;obtain⟨ud,uc,hvb⟩:=hbb.shape;obtain⟨na,hna⟩:∃na,s.arcs.length=na:=⟨_,rfl⟩;obtain⟨nb,hnb⟩:∃nb,t.arcs.length=nb:=⟨_,rfl⟩;rw[hna]at hva;rw[hnb]at hvb;subst hva;subst hvb;have hS0:=hS.grow hgw ((Gr.refl wr).drew);have hE2:E≤w2.heap.size:=Nat.le_trans hE HBW.out.size;have hbd:Below E w2 wr.drew:=(HG.out.drew).bel.mono hE2;have HCS:Hid (Calls Tryz.prog 147 #[.agg #[.bool s.final,.int .i64 s.out,.slice vd na vc],.agg #[.bool t.final,.int .i64 t.out,.slice ud nb uc]] wr.drew fun e w'=>e = .returned (.int .i64 (cfS m d[k]! d[k+1]!))∧Gr wr.drew w'):=by
      have:=zDh E s t _ _ wr.drew (haa.below hbd) (hbb.below hbd) (Nat.le_trans hE2 hbd.size) hla hlb;unfold cfS;rw[hs,ht];exact this
     have HS0:Hid (SU g k s t (.slice vd na vc) (.slice ud nb uc) w2 wr.drew):=hS0;(have HK1:Hid (cfS m d[k]! d[k+1]! = 0→¬m.Nodup):=fun h=>dup_adj hds HD.out.2.1 (by omega) h);have HK2:Hid (cfS m d[k]! d[k+1]!≠0→∀i,i<k+1→cfS m d[i]! d[i+1]!≠0):=fun h i hi=>by
      by_cases hik:i=k
      · rw[hik];exact h
      · exact HA.out i (by omega)
     (have hk1:IntKind.i64.wrap ((k:Int)+1)=(k:Int)+1:=by rw[IntKind.wrap_i64];omega);(have hk2:(k:Int)+1<(n:Int)+1:=by omega);(have hk3:(0:Int)≤(k:Int)+1:=by omega);(have hk4:((k:Int)+1).toNat=k+1:=by omega);(have hk5:(k:Int)<(n:Int)+1:=by omega);clear hs ht hcell hS ea eb haa hbb hna hnb hds hn1;generalize cfS m d[k]! d[k+1]! = c at HCS HK1 HK2;(go_upto_region 6 with fail);refine zAd (S:=SU g k s t (.slice vd na vc) (.slice ud nb uc) w2) 11 rfl zAo hS0 (fun _=>?_);refine tq4 SU.facts 0 15 1 16 2 17 3 18 ?_;simp only[sZa,sZb,sZc];refine tq2 SU.facts 4 19 5 20 ?_;simp only[sZa,sZb,sZc];refine tk (i:=6) (v := .int .i64 ((k:Int)+1)) 21 rfl rfl (by kernel_rfl) (fun _ s=>by(have h:=SU.facts s;clear s;go_simp;first|done|exact rfl|simp_all|(simp;omega))) ?_;simp only[sZa,sZb,sZc];refine tq2 SU.facts 7 22 8 23 ?_;simp only[sZa,sZb,sZc];refine zAe (i:=9) (w0:=wr.drew) 24 147 #[.agg #[.bool s.final,.int .i64 s.out,.slice vd na vc],.agg #[.bool t.final,.int .i64 t.out,.slice ud nb uc]] (by kernel_rfl) rfl rfl (by rfl) (by kernel_rfl) ?_;refine HCS.out.mono ?_;rintro e w3 ⟨rfl,hg3⟩;have hS3:=HS0.out.grow hgw hg3;have HG3:Hid (Gr w2 w3):=hS3.gr;refine⟨_,rfl,hS3,fun _=>?_⟩;simp only[sZa,sZb,sZc];by_cases hc:c=0
     · subst hc
       have HF:Hid (decide m.Nodup=false):=decide_eq_false (HK1.out rfl);refine tk (i:=10) (v := .bool true) 25 rfl rfl (by kernel_rfl) (fun _ s=>by(have h:=SU.facts s;clear s;go_simp;first|done|exact rfl|simp_all|(simp;omega))) ?_;simp only[sZa,sZb,sZc];refine wpAnyH_done (by kernel_rfl) ?_ _;go_wp2;go_ret;exact⟨by rw[HF.out];rfl,HBW.out.trans (HG3.out.bel.mono HBW.out.size)⟩
     · have HF:Hid (∀i,i<k+1→cfS m d[i]! d[i+1]!≠0):=HK2.out hc
       have h1b:(c==0)=false:=beq_eq_false_iff_ne.2 hc;refine tk (i:=10) (v := .bool false) 25 rfl rfl (by kernel_rfl) (fun _ s=>by(have h:=SU.facts s;clear s;go_simp;first|done|exact rfl|simp_all|(simp;omega))) ?_;simp only[sZa,sZb,sZc];refine wpAnyH_done (by kernel_rfl) ?_ _;go_wp2;go_roundg (n-(k+1));(case measure=>omega);case rel=>exact⟨k+1,by go_num,by omega,Nat.le_refl _,HF,HG3⟩
   · have hltz:¬(k:Int)<(n:Int):=by omega
     (have hkn:k=n:=by omega);have HF:Hid (decide m.Nodup=true):=by
      refine decide_eq_true (zVc HD.out.1 HD.out.2.1 HD.out.2.2.1 fun i hi=>?_);have:=HN.out;exact HA.out i (by omega)
     go_wp2;go_ret;exact⟨by rw[HF.out];rfl,HBW.out.trans (HG.out.bel.mono HBW.out.size)⟩
end
section
open Go.RowKit Go.Lib Nums Pm
namespace Bt
theorem zD7(w1:World)(mb:Nat)(a b c:Value)(hb:w1.heap[mb]?=some (.cells #[a,b,c] 74))(x:Mt):
 ∃W,zC7 Tryz.prog (.pointer (some ⟨mb,0,none⟩)) (valM x) w1 = .ok () W∧Upd (fun k=>k=mb) w1 W∧W.heap[mb]?=some (.cells (cellsM x).toArray 74):=by
 refine⟨w1.setCells mb 0 (cellsM x),zC6 (u:=a) (v:=b) (z:=c) (by simp[World.cell?,hb]) (by simp[World.cell?,hb]) (by simp[World.cell?,hb]) (by simp[World.frozen?,hb]) (by simp[World.frozen?,hb]) (by simp[World.frozen?,hb]),Upd.setCells (F:=fun k=>k=mb) rfl _ _ (Upd.refl _ _),?_⟩;simp[cellsM,World.setCells,World.setCell,Array.getElem?_modify,hb]
theorem zD8{W:World}{mb:Nat}{x:Mt}(h:W.heap[mb]?=some (.cells (cellsM x).toArray 74)):W.cell? ⟨mb,0,none⟩=some (.string x.1)∧W.cell? ⟨mb,1,none⟩=some (.int .i64 x.2.1)∧W.cell? ⟨mb,2,none⟩=some (.int .i64 x.2.2):=by
 refine⟨by simp[World.cell?,h,cellsM],by simp[World.cell?,h,cellsM],by simp[World.cell?,h,cellsM]⟩
theorem zKz{W:World}{mb:Nat}{x:Mt}(h:W.heap[mb]?=some (.cells (cellsM x).toArray 74)):zFp Tryz.prog (.pointer (some ⟨mb,0,none⟩)) W = .ok (valM x) W:=by
 obtain⟨c0,c1,c2⟩:=zD8 h;exact zDp c0 c1 c2
theorem zR0{tmps:Array Value}{w:World}{rb:Nat}{a b c:Value}(h2:tmps.getD 2 undef = .pointer (some ⟨rb,0,none⟩))(c0:w.cell? ⟨rb,0,none⟩=some a)(c1:w.cell? ⟨rb,1,none⟩=some b)(c2:w.cell? ⟨rb,2,none⟩=some c):(results Tryz.f127 tmps).run Tryz.prog w = .ok (.agg #[a,b,c]) w:=by
 have h2':tmps[2]?.getD undef = .pointer (some ⟨rb,0,none⟩):=by simpa using h2
 simp[results,Tryz.results127,go_sem,h2',c0,c1,c2]
theorem zJc{tmps:Array Value}{w:World}{rb:Nat}{a b c:Value}(h2:tmps.getD 2 undef = .pointer (some ⟨rb,0,none⟩))(c0:w.cell? ⟨rb,0,none⟩=some a)(c1:w.cell? ⟨rb,1,none⟩=some b)(c2:w.cell? ⟨rb,2,none⟩=some c):(results Tryz.f125 tmps).run Tryz.prog w = .ok (.tuple #[.agg #[a,b,c],tmps.getD 3 undef]) w:=by
 have h2':tmps[2]?.getD undef = .pointer (some ⟨rb,0,none⟩):=by simpa using h2
 simp[results,Tryz.results125,go_sem,h2',c0,c1,c2]
attribute [local go_sem ↓] zB3 zBu
set_option maxHeartbeats 1000000 in
theorem zFh(B:Nat)(w:World)(p:Nat)(room:Int)(v:Value)(h:List Mt)(n:Nat)(K:KAt B w p room v h)(H:Hp h.length h)(hn:h.length=n+1)(hl:h.length<549755813888):
 Calls Tryz.prog 127 #[.pointer (some ⟨p,0,none⟩)] w fun e w'=>e = .returned (valM (el h 0))∧∃v' h',KAt B w' p room v' h'∧Upd (KF p v) w w'∧v'.ownBlock=v.ownBlock∧(el h 0::h').Perm h∧Hp h'.length h'∧h'.length=n:=by
 obtain⟨V1,hV1⟩:∃V1,w.alloc (.cells #[.string ⟨#[]⟩,.int .i64 0,.int .i64 0] 74)=V1:=⟨_,rfl⟩;obtain⟨mb,hmb⟩:∃mb,w.heap.size=mb:=⟨_,rfl⟩;have hb1:Below w.heap.size w V1:=by rw[←hV1];exact(Below.refl _ w).alloc (Nat.le_refl _) _
 have hn1:V1.heap[mb]?=some (.cells #[.string ⟨#[]⟩,.int .i64 0,.int .i64 0] 74):=by rw[←hV1,←hmb];exact zBv _ _
 have hmk:∀k,KF p v k→k<mb:=fun k hk=>by
  rcases hk with rfl|hk
  · have:=K.lt;omega
  · have:=K.row.lt hk;omega
 have HB1:Hid (Below w.heap.size w V1):=hb1;have HMK:Hid (∀k,KF p v k→k<mb):=hmk;have HN1:Hid (V1.heap[mb]?=some (.cells #[.string ⟨#[]⟩,.int .i64 0,.int .i64 0] 74)):=hn1;have HPO:Hid (Calls Tryz.prog 161 #[.iface 199 (.pointer (some ⟨p,1,none⟩))] V1 fun e w'=>e = .returned (.iface 74 (valM (el h 0)))∧∃v' h',KAt B w' p room v' h'∧Upd (KF p v) V1 w'∧v'.ownBlock=v.ownBlock∧(el h 0::h').Perm h∧Hp h'.length h'∧h'.length=n):=Pop_any B V1 p room v h n (K.below hb1) H hn hl;have HM:Hid (w.heap.size=mb):=hmb;have hta:=zHy;clear K H hn hb1 hn1 hmk;go_enter Tryz.func127,Tryz.ntmps127;go_upto_region 1 with fail
 clear hV1 hmb;go_wp2_with (go_at_call 161;refine HPO.out.mono ?_;rintro e w2 ⟨rfl,v2,h2,hK2,hu2,hx2,hr2⟩;have hm2:=(hu2.block mb (Array.getElem?_eq_some_iff.1 HN1.out).1 (fun f=>by have:=HMK.out mb f;omega)).trans HN1.out;obtain⟨W,hst,huW,hcW⟩:=zD7 w2 mb _ _ _ hm2 (el h 0);clear hm2;have HKK:Hid (KAt B w2 p room v2 h2∧Upd (KF p v) V1 w2∧v2.ownBlock=v.ownBlock∧(el h 0::h2).Perm h∧Hp h2.length h2∧h2.length=n):=⟨hK2,hu2,hx2,hr2⟩;have HUW:Hid (Upd (fun k=>k=mb) w2 W):=huW;have HCW:Hid (W.heap[mb]?=some (.cells (cellsM (el h 0)).toArray 74)):=hcW;clear hK2 hu2 hx2 hr2 huW hcW);obtain⟨c0,c1,c2⟩:=zD8 HCW.out;refine bodyPost_ret (zR0 rfl c0 c1 c2) rfl ?_;have hmk2:∀k,KF p v2 k→k<mb:=fun k hk=>by
  rcases hk with rfl|hk
  · exact HMK.out _ (.inl rfl)
  · exact HMK.out _ (.inr (HKK.out.2.2.1▸hk))
 refine⟨rfl,v2,h2,HKK.out.1.upd HUW.out (fun k hk e=>by have:=hmk2 k hk;omega),?_,HKK.out.2.2⟩;have u1:Upd (KF p v) w w2:=(zAj HB1.out).trans HKK.out.2.1 (fun _ _ f=>f);exact⟨HUW.out.os.trans u1.os,HUW.out.tape.trans u1.tape,HUW.out.output.trans u1.output,Nat.le_trans u1.size HUW.out.size,fun k hk hf=>(HUW.out.block k (Nat.lt_of_lt_of_le hk u1.size) (by have:=HM.out;show ¬k=mb;omega)).trans (u1.block k hk hf)⟩
set_option maxHeartbeats 1000000 in
theorem zNw(B:Nat)(w:World)(p:Nat)(room:Int)(v:Value)(h:List Mt)(K:KAt B w p room v h):
 Calls Tryz.prog 125 #[.pointer (some ⟨p,0,none⟩)] w fun e w'=>e = .returned (.tuple #[valM (el h 0),.bool (decide (0<h.length))])∧Below w.heap.size w w':=by
 obtain⟨V1,hV1⟩:∃V1,w.alloc (.cells #[.string ⟨#[]⟩,.int .i64 0,.int .i64 0] 74)=V1:=⟨_,rfl⟩;obtain⟨mb,hmb⟩:∃mb,w.heap.size=mb:=⟨_,rfl⟩;have hb1:Below w.heap.size w V1:=by rw[←hV1];exact(Below.refl _ w).alloc (Nat.le_refl _) _
 have hn1:V1.heap[mb]?=some (.cells #[.string ⟨#[]⟩,.int .i64 0,.int .i64 0] 74):=by rw[←hV1,←hmb];exact zBv _ _
 have K1:=K.below hb1;have HL:Hid (Calls Tryz.prog 124 #[.pointer (some ⟨p,0,none⟩)] V1 fun e w'=>e = .returned (.int .i64 h.length)∧w'=V1):=zLw B V1 p room v h K1;have HFIN:Hid (∀W,Upd (fun k=>k=mb) V1 W→Below w.heap.size w W):=fun W u=>hb1.trans (u.below (B:=w.heap.size) (fun k e=>by have:k=mb:=e;omega) hb1.size)
 have c1:=K1.c1;by_cases h0:h.length=0
 · obtain⟨W,hst,huW,hcW⟩:=zD7 V1 mb _ _ _ hn1 (⟨#[]⟩,0,0)
   have HE:Hid (valM (el h 0) = .agg #[.string ⟨#[]⟩,.int .i64 0,.int .i64 0]):=by
    have:h=[]:=List.length_eq_zero_iff.1 h0;subst this;rfl
   have HD:Hid (decide (0<h.length)=false):=decide_eq_false (by omega);have HB:Hid (Below w.heap.size w W):=HFIN.out W huW;rw[h0]at HL;have hst2:zC7 Tryz.prog (.pointer (some ⟨mb,0,none⟩)) (.agg #[.string ⟨#[]⟩,.int .i64 0,.int .i64 0]) V1 = .ok () W:=hst;have HC:=zD8 hcW;clear K K1 hb1 hn1 h0 hst huW hcW HFIN;go_enter Tryz.func125,Tryz.ntmps125;go_wp2_with (go_at_call 124;refine HL.out.mono ?_;rintro e w2 ⟨rfl,hw2⟩;replace hw2:=hw2.symm;subst hw2);refine bodyPost_ret (zJc rfl HC.1 HC.2.1 HC.2.2) rfl ?_;exact⟨by rw[HE.out,HD.out];rfl,HB.out⟩
 · obtain⟨W,hst,huW,hcW⟩:=zD7 V1 mb _ _ _ hn1 (el h 0)
   have HB:Hid (Below w.heap.size w W):=HFIN.out W huW;have HD:Hid (decide (0<h.length)=true):=decide_eq_true (by omega);obtain⟨g,cap,hv,hg,_,hcap,hc⟩:=GOwn.mt K1.row (by omega);obtain⟨n0,n1,n2,_⟩:=hc 0 (by omega);rw[Nat.zero_mul]at n0 n1 n2;have hld:zFp Tryz.prog (.pointer (some ⟨g,0,none⟩)) V1 = .ok (valM (el h 0)) V1:=zDp n0 n1 n2;obtain⟨n,hn⟩:∃n,h.length=n:=⟨_,rfl⟩;rw[hn]at hv HL h0 hcap;rw[hv]at c1;(have hz:((n:Int)==0)=false:=by simp;omega);(have hz2:(0:Int)<(n:Int):=by omega);have HC:=zD8 hcW;clear K K1 hb1 hn1 huW hcW HFIN hc n0 n1 n2 hn hv;go_enter Tryz.func125,Tryz.ntmps125;go_wp2_with (go_at_call 124;refine HL.out.mono ?_;rintro e w2 ⟨rfl,hw2⟩;replace hw2:=hw2.symm;subst hw2);refine bodyPost_ret (zJc rfl HC.1 HC.2.1 HC.2.2) rfl ?_;exact⟨by rw[HD.out];rfl,HB.out⟩
theorem New_any(w:World)(k:Int):Calls Tryz.prog 83 #[.int .i64 k] w fun e w'=>e = .returned (.pointer (some ⟨w.heap.size,0,none⟩))∧KAt w.heap.size w' w.heap.size (min k 64) (.slice none 0 0) []∧Below w.heap.size w w':=by
 go_enter Tryz.func83,Tryz.ntmps83;go_wp2;go_ret;have hn:=zBv w (.cells #[.int .i64 (min k 64),.slice none 0 0] 195);have hb:=(Below.refl w.heap.size w).alloc (Nat.le_refl _) (.cells #[.int .i64 (min k 64),.slice none 0 0] 195);generalize w.alloc (.cells #[.int .i64 (min k 64),.slice none 0 0] 195)=W at hn hb ⊢;exact⟨rfl,⟨Nat.le_refl _,(Array.getElem?_eq_some_iff.1 hn).1,by simp[World.cell?,hn],by simp[World.cell?,hn],by simp[World.frozen?,hn],GOwn.nil _ _ _ _,by simp[Value.ownBlock]⟩,hb⟩
end Bt
end
