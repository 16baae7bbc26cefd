import Derived.Test.YtobjpljdgieklaaGreatDoorJ41
import Derived.Test.YtobjpljdgieklaaGreatDoorJ42
import Derived.Test.YtobjpljdgieklaaGreatDoorJ34
set_option maxRecDepth 100000
set_option maxHeartbeats 8000000
namespace Go.Proofs.YtobjpljdgieklaaGreatDoor
section
open Go.RowKit Nums Fm Pk Pm
theorem zAt{l:List Pr}(h:zAl l=0):(∀x∈l,zAq x.1.data.toList=true∧1≤x.2∧x.2≤1048576)∧l.Pairwise (fun a b=>zAa a.1 b.1=true)∧l.length≤4096:=by
 unfold zAl at h
 split at h
 · cases h
 · exact⟨zFw l none h,(zGn l none h).2,by omega⟩
theorem zOt{l:List Pr}(h:zAl l=0){s:ByteArray}(hs:zAq s.data.toList=false):Pm.find l s=none:=by
 cases hf:Pm.find l s with
 |none=>rfl
 |some v=>
  have:=((zAt h).1 _ (Pm.find_mem hf)).1;rw[hs]at this;cases this
theorem zXd{D:List (List En)}{b:List St}(hI:Inv D b){n:Nat}{s:St}(hs:b[n]?=some s):∀a c,a<c→c<(s.arcs.map zAr).length→zBr (s.arcs.map zAr) a<zBr (s.arcs.map zAr) c:=fun a c hac hc=>by
 have hl:c<s.arcs.length:=by simpa using hc
 have h1:=List.pairwise_iff_getElem.1 (hI.row n s hs).2.2.lab a c (by omega) hl hac;rw[zDq (a:=zAr s.arcs[a]) (by rw[List.getElem?_map,List.getElem?_eq_getElem (by omega)];rfl),zDq (a:=zAr s.arcs[c]) (by rw[List.getElem?_map,List.getElem?_eq_getElem hl];rfl)];exact h1
theorem zLe{l:List Pr}(h:zAl l=0){n:Nat}{s:St}(hs:(zAg l).2[n]?=some s):(s.arcs.map zAr).length≤1114112:=by
 have h1:=zIf h;unfold Pk.rightB at h1
 split at h1
 · rename_i h2
   (have:(zAg l).2=[]:=by simpa using h2);rw[this]at hs;simp at hs
 · simp only[Bool.and_eq_true]at h1
   obtain⟨⟨⟨⟨⟨_,_⟩,hf⟩,_⟩,_⟩,_⟩:=h1;have key:∀(m:List RSt) (i k:Nat) (t:RSt),zBg i m=true→m[k]?=some t→zIt t (i+k)=true:=fun m=>by
    induction m with
    |nil=>intro i k t _ hk;simp at hk
    |cons x r ih=>
     intro i k t hf hk;rw[zBg,Bool.and_eq_true]at hf;cases k with
     |zero=>simp at hk;subst hk;exact hf.1
     |succ k=>have:=ih (i+1) k t hf.2 (by simpa using hk);rwa [show i+1+k=i+(k+1)by omega]at this
   have h3:=key _ 0 n (ofSt s) hf (by rw[List.getElem?_map,hs];rfl);exact(zEo h3).2.2
theorem wrap_sum{x y:Int}(h1:1≤x)(h2:x≤1048576)(h3:0≤y)(h4:y≤1048576):IntKind.i64.wrap (x+y)=x+y:=by
 first|exact wrap_small _ (by omega) (by omega)|(rw[IntKind.wrap_i64];exact IntWalk.wrap64_in _ (by omega))|(rw[IntKind.wrap_i64];unfold wrap64;omega)
structure S11(ab:Nat)(o t:Int)(W:World):Prop where
 c1:W.cell? ⟨ab,1,none⟩=some (.int .i64 o)
 c2:W.cell? ⟨ab,2,none⟩=some (.int .i64 t)
theorem S11.facts{ab:Nat}{o t:Int}{W:World}(h:S11 ab o t W):W.cell? ⟨ab,1,none⟩=some (.int .i64 o)∧W.cell? ⟨ab,2,none⟩=some (.int .i64 t):=⟨h.1,h.2⟩
def S4b(wb:Nat)(base:Int)(W:World):Prop:=W.cell? ⟨wb,0,none⟩=some (.int .i64 base)
theorem S4b.facts{wb:Nat}{base:Int}{W:World}(h:S4b wb base W):W.cell? ⟨wb,0,none⟩=some (.int .i64 base):=h
theorem fa_arcs{l:List Arc}{c:Int}(h:fa (l.map zAr) c=none):∀a∈l,a.label≠c:=fun a ha e=>by
 unfold fa at h;rw[List.find?_eq_none]at h;have:=h (zAr a) (List.mem_map.2 ⟨a,ha,rfl⟩);exact this (by rw[beq_iff_eq];exact e)
theorem fa_arc{l:List Arc}{c:Int}{x:RArc}(h:fa (l.map zAr) c=some x):∃a∈l,a.label=c∧x=zAr a:=by
 unfold fa at h;have h1:=List.find?_some h;obtain⟨a,ha,rfl⟩:=List.mem_map.1 (List.mem_of_find?_eq_some h);exact⟨a,ha,beq_iff_eq.1 h1,rfl⟩
theorem zRl(w:World)(wb:Nat)(l:List Pr)(h:WkOn w wb l)(s:ByteArray)(hs:s.size≤9223372036854775807):
 Calls Tryz.prog 45 #[.pointer (some ⟨wb,0,none⟩),.string s] w fun e w'=>e = .returned (.tuple #[.int .i64 ((Pm.find l s).getD 0),.bool (Pm.find l s).isSome])∧Below w.heap.size w w':=by
 obtain⟨D,hMW,hI,hWk⟩:=h.at';have HRT:Hid (∀W',Below w.heap.size w W'→Calls Tryz.prog 70 #[.pointer (some ⟨wb,0,none⟩)] W' fun e w'=>e = .returned (.int .i64 ((((zAg l).2.map ofSt).length:Int)-1))∧w'=W'):=fun W' hW=>zHh _ W' wb _ _ _ (hWk.below hW)
 have HWd:Hid (∀W,Below w.heap.size w W→Calls Tryz.prog 56 #[.string s] W fun e w'=>e = .returned (.bool (zAq s.data.toList))∧Below W.heap.size W w'):=fun W hW=>by
  refine(zCj s W (h.tabs.below hW) hs).mono ?_;rintro e w' ⟨rfl,n,rfl⟩;exact⟨rfl,belowN (Below.refl _ _) n⟩
 obtain⟨F,hF⟩:∃F,Pm.find l s=F:=⟨_,rfl⟩;have HF:Hid (Pm.find l s=F):=hF;rw[hF];clear hF;rcases zKu h.ok with hl|⟨hl,n,hn⟩
 · subst hl
   have HFN:Hid (F=none):=HF.out.symm;clear hMW hI hWk h;go_enter Tryz.func45,Tryz.ntmps45;go_wp2_with (go_at_call 70;refine(HRT.out _ (Below.refl _ _)).mono ?_;rintro e w1 ⟨rfl,hw1⟩;rw[hw1];clear hw1);go_ret2;exact⟨by rw[HFN.out];rfl,Below.refl _ _⟩
 · have hM:=hMW hl
   (have hnl:((zAg l).2.map ofSt).length=n+1:=by rw[List.length_map,hn]);rw[hnl]at HRT;(have hkz:((n+1:Nat):Int)-1=(n:Int):=by omega);rw[hkz]at HRT;cases hwd:zAq s.data.toList with
   |false=>
    rw[hwd]at HWd;have HFN:Hid (F=none):=HF.out.symm.trans (zOt h.ok hwd);clear hMW hI hWk h hM;go_enter Tryz.func45,Tryz.ntmps45
    go_wp2_with (first
     |(go_at_call 70;refine(HRT.out _ (Below.refl _ _)).mono ?_;rintro e w1 ⟨rfl,hw1⟩;rw[hw1];clear hw1)
     |(go_at_call 56;refine(HWd.out _ (Below.refl _ _)).mono ?_;rintro e w1 ⟨rfl,hb1⟩))
    go_ret2;exact⟨by rw[HFN.out];rfl,hb1⟩
   |true=>
    rw[hwd]at HWd;obtain⟨xs,hxs,hx1,hx24,_,_⟩:=zA4 (x:=(s,0)) hwd;have hxs:rs s.data.toList=some xs:=hxs;have HFW:Hid (F=wt xs (ents l)):=HF.out.symm.trans (find_wt (zB2 h.ok) hxs);have HRU:Hid (∀W,Below w.heap.size w W→Calls Tryz.prog 71 #[.string s] W fun e w'=>∃v,e = .returned (.tuple #[v,.bool true])∧Made W.heap.size w' v xs∧Below W.heap.size W w'):=fun W hW=>by
     refine(zF4 s W (h.tabs.below hW) hs (zCf hxs (by omega))).mono ?_;rintro e w' ⟨v,hb,⟨h1,_⟩|⟨ys,h1,h2,h3⟩⟩
     · rw[hxs]at h1;cases h1
     · rw[hxs]at h1;cases h1;exact⟨v,h2,h3,hb⟩
    obtain⟨D2,hI2,hst⟩:=zU7 h.ok;have hDD:=zK0 hI2 hI;subst hDD;(have hst0:Stands D2 (zAg l).2 (ents l) xs 0 ((n:Int)) (zAg l).1:=by have:=hst xs;rw[hn]at this;rw[show((n:Int))=((n+1:Nat):Int)-1 by omega];exact this);obtain⟨base,hbase⟩:∃base,(zAg l).1=base:=⟨_,rfl⟩;rw[hbase]at hst0 hWk;obtain⟨b,hb0⟩:∃b,(zAg l).2=b:=⟨_,rfl⟩;(have HAF:Hid (∀(n:Nat) (t:St),b[n]?=some t→(t.arcs.map zAr).length≤1114112):=fun k t ht=>zLe h.ok (by rw[hb0];exact ht));rw[hb0]at hst0 hWk hI hn;have HWK:Hid (WkAt w.heap.size w wb base (b.map ofSt) (D2.map List.length)):=hWk;have HST0:Hid (Stands D2 b (ents l) xs 0 (n:Int) base):=hst0;have HNB:Hid (b.length=n+1):=hn;obtain⟨m,hm⟩:∃m,xs.length=m:=⟨_,rfl⟩;have HM:Hid (xs.length=m):=hm;(have hm24:m≤24:=by omega);obtain⟨sd,sc,wd,wc,q0,q1,q2,hSt,_⟩:=hWk.facts;(have hlm:(b.map ofSt).length=n+1:=by rw[List.length_map,hn]);rw[hlm]at q1 hSt;have hsl:=hSt.len;rw[List.length_map,hn]at hsl;have HSt:Hid (StsAt w.heap.size w (.slice sd (n+1) sc) (b.map ofSt)):=hSt;(have HQ:Hid (∀W,Below w.heap.size w W→W.cell? ⟨wb,0,none⟩=some (.int .i64 base)∧W.cell? ⟨wb,1,none⟩=some (.slice sd (n+1) sc)):=fun W hW=>⟨(hW.cell (p:=⟨wb,0,none⟩) hWk.lt).trans q0,(hW.cell (p:=⟨wb,1,none⟩) hWk.lt).trans q1⟩);(have hnl':n≤9223372036854775806:=by omega);clear hMW hWk h hM hst hst0 hI2 hnl hn hxs hbase hb0 hm hSt q0 q1 q2 hlm hwd;go_enter Tryz.func45,Tryz.ntmps45
    go_upto_region 4 with(first
     |(go_at_call 70;refine(HRT.out _ (Below.refl _ _)).mono ?_;rintro e w0 ⟨rfl,hw0⟩;rw[hw0];clear hw0)
     |(go_at_call 56;refine(HWd.out _ (Below.refl _ _)).mono ?_;rintro e w1 ⟨rfl,hb1⟩;have HB1:Hid (Below w.heap.size w w1):=hb1;clear hb1)
     |(go_at_call 71;refine(HRU.out _ HB1.out).mono ?_;rintro e w2 ⟨v,rfl,hmd,hb2⟩;have HMD:Hid (Made w1.heap.size w2 v xs):=hmd;have HB2:Hid (Below w.heap.size w w2):=HB1.out.trans (hb2.mono HB1.out.size);clear hmd hb2))
    have HBd:Hid (Below w.heap.size w w2.drew):=HB2.out.drew;have hS4:S4b wb base w2.drew:=(HQ.out _ HBd.out).1;obtain⟨vd,vc,hvv⟩:∃vd vc,v = .slice vd m vc:=by
     obtain⟨a,c,e⟩:=HMD.out.shape;exact⟨a,c,by rw[e,HM.out]⟩
    subst hvv;have HRW:Hid (RunesAt w2.drew.heap.size w2.drew (.slice vd m vc) xs):=(HMD.out.below (Below.refl _ w2).drew).runes;refine zAf (S:=S4b wb base) 9 rfl zAn hS4 (fun _=>?_);refine tq4 S4b.facts 0 28 2 30 3 31 4 32 ?_;simp only[sZa,sZb,sZc];refine tq2 S4b.facts 5 33 6 34 ?_;simp only[sZa,sZb,sZc];refine oc 1 w2.drew 29 70 #[.pointer (some ⟨wb,0,none⟩)] ?_;refine(HRT.out _ HBd.out).mono ?_;rintro e w3 ⟨rfl,hw3⟩;rw[hw3];clear hw3;refine⟨_,rfl,hS4,fun _=>?_⟩;simp only[sZa,sZb,sZc];refine tq2 S4b.facts 7 8 8 9 ?_;simp only[sZa,sZb,sZc];refine wpAnyH_done (by kernel_rfl) ?_ _;clear hS4;generalize w2.drew=Wd at *;go_wp2
    go_loopg [8,9,11,12,13,37] m (fun gm s8 s9 _ _ _ s37 wr=>∃(i k:Nat) (sum:Int),s37 = .int .i64 i∧s8 = .int .i64 (k:Int)∧s9 = .int .i64 sum∧i≤m∧m-i≤gm∧Hid (Stands D2 b (ents l) xs i (k:Int) sum)∧Hid (k<b.length)∧Hid (Below Wd.heap.size Wd wr))
    case atStart=>exact⟨0,n,base,by go_num,rfl,rfl,Nat.zero_le _,by omega,HST0,(show n<b.length by have:=HNB.out;omega),Below.refl _ _⟩
    case round=>
     obtain⟨i,k,sum,rfl,rfl,rfl,hi,hgm,HST,HK,HBR⟩:=hrel;have hsum:=HST.out.sum hI;obtain⟨t,ht⟩:∃t,b[k]?=some t:=⟨b[k]'HK.out,List.getElem?_eq_getElem _⟩;have hbw:Below w.heap.size w wr:=HBd.out.trans (HBR.out.mono HBd.out.size);have HBW:Hid (Below w.heap.size w wr):=hbw;obtain⟨g,off,va,hgd,hg,x0,x1,x2,hA⟩:=HSt.out.at (k:=k) (s:=ofSt t) (by rw[List.getElem?_map,ht];rfl);obtain⟨ta,tc,hva⟩:=hA.shape;obtain⟨na,hna⟩:∃na,t.arcs.length=na:=⟨_,rfl⟩;(have hna2:(ofSt t).arcs.length=na:=by show(t.arcs.map zAr).length=na;rw[List.length_map,hna]);rw[hna2]at hva;subst hva;subst hgd;have u0:wr.cell? ⟨g,off+k*3,none⟩=some (.bool t.final):=(hbw.cell (p:=⟨g,off+k*3,none⟩) hg).trans x0;have u1:wr.cell? ⟨g,off+k*3+1,none⟩=some (.int .i64 t.out):=(hbw.cell (p:=⟨g,off+k*3+1,none⟩) hg).trans x1;have u2:wr.cell? ⟨g,off+k*3+2,none⟩=some (.slice ta na tc):=(hbw.cell (p:=⟨g,off+k*3+2,none⟩) hg).trans x2;have u3:=(HQ.out wr hbw).2;(have hkz2:(k:Int)<(n:Int)+1:=by have:=HK.out;have:=HNB.out;omega);have HTB:Hid (b[k]?=some t):=ht;by_cases hlt:i<m
     · have hltz:(i:Int)<(m:Int):=by omega
       obtain⟨c,hc⟩:∃c,xs[i]?=some c:=⟨xs[i]'(by have:=HM.out;omega),List.getElem?_eq_getElem _⟩;obtain⟨ad2,cap2,hv2,hcells⟩:=HRW.out.below HBR.out;simp only[Value.slice.injEq]at hv2;obtain⟨gx,ox,hgx,_,hcx⟩:=hcells (by have:=HM.out;omega);obtain⟨hv2a,hv2b,hv2c⟩:=hv2;clear hv2b hv2c;subst hv2a;subst hgx;have ucx:=hcx i c hc
       have HFD:Hid (Calls Tryz.prog 72 #[.slice ta na tc,.int .i32 c] wr fun e w'=>e = .returned (.tuple #[arcV ((fa (t.arcs.map zAr) c).getD zA),.bool (fa (t.arcs.map zAr) c).isSome])∧Below wr.heap.size wr w'):=
        find_any w.heap.size wr (t.arcs.map zAr) _ c (hA.below hbw) hbw.size (zXd hI ht) (HAF.out k t ht)
       have hnext:=HST.out.next hI ht hc
       clear x0 x1 x2 hA hna hna2 hbw ht hcells hcx u0 u1;cases hfa:fa (t.arcs.map zAr) c with
       |none=>
        rw[hfa]at HFD;have HFN:Hid (F=none):=by
         rcases hnext.1 (fa_arcs hfa) 0 with⟨_,h2⟩|⟨q,_,h2,_⟩
         · exact HFW.out.trans h2
         · omega
        clear hnext hfa hc;go_wp2_with (go_at_call 72;refine HFD.out.mono ?_;simp only[Option.getD_none,Option.isSome_none,arcV,zA];rintro e w5 ⟨rfl,hb5⟩;have HB5:Hid (Below wr.heap.size wr w5):=hb5;clear hb5);go_ret2;have h6:=HBW.out.trans (HB5.out.mono HBW.out.size);exact⟨by rw[HFN.out];rfl,h6.alloc (Nat.le_trans HBW.out.size HB5.out.size) _⟩
       |some x=>
        rw[hfa]at HFD;obtain⟨a,ham,hac,rfl⟩:=fa_arc hfa;obtain⟨n1,n2,n3,n4⟩:=hnext.2 a ham hac;have HN1:Hid (Stands D2 b (ents l) xs (i+1) (a.to:Int) (sum+a.out)):=n1;have HN2:Hid (a.to<b.length):=n2;obtain⟨d1,d2⟩:0≤a.out∧a.out≤1048576:=⟨(zCp hI HTB.out).2.1 a ham,by omega⟩;clear hnext hfa hc n1 n2 hac;(go_upto_region 9 with(go_at_call 72;refine HFD.out.mono ?_;simp only[Option.getD_some,Option.isSome_some,arcV,zAr];rintro e w5 ⟨rfl,hb5⟩;have HB5:Hid (Below wr.heap.size wr w5):=hb5;clear hb5));obtain⟨W6,hW6⟩:∃W6,W6=w5.alloc (.cells #[.int .i32 a.label,.int .i64 a.out,.int .i64 (a.to:Int)] 126):=⟨_,rfl⟩;rw[←hW6];obtain⟨ab,hab⟩:∃ab,ab=w5.heap.size:=⟨_,rfl⟩;rw[←hab];(have hn6:W6.heap[ab]?=some (.cells #[.int .i32 a.label,.int .i64 a.out,.int .i64 (a.to:Int)] 126):=by rw[hW6,hab];exact zAb _ _);(have hb6:Below w5.heap.size w5 W6:=by rw[hW6];exact(Below.refl _ w5).alloc (Nat.le_refl _) _);have hb7:Below Wd.heap.size Wd W6.drew:=by
         have h1:=HBR.out.trans (HB5.out.mono HBR.out.size);exact(h1.trans (hb6.mono h1.size)).drew
        have HB7:Hid (Below Wd.heap.size Wd W6.drew):=hb7;have hS:S11 ab a.out (a.to:Int) W6.drew:=⟨(by show W6.cell? ⟨ab,1,none⟩=_;simp[World.cell?,hn6]),(by show W6.cell? ⟨ab,2,none⟩=_;simp[World.cell?,hn6])⟩;clear hW6 hab hn6 hb6 hb7;(go_upto_region 11 with fail);refine zAf (S:=S11 ab a.out (a.to:Int)) 8 rfl zAn hS (fun _=>?_);refine tq4 S11.facts 0 57 1 58 2 59 3 60 ?_;simp only[sZa,sZb,sZc];refine tq S11.facts 4 61 ?_;simp only[sZa,sZb,sZc];refine tk (i:=5) (v := .int .i64 (sum+a.out)) 62 rfl rfl (by kernel_rfl) (fun w hSw=>by(clear hSw;go_simp;first|done|exact wrap_sum hsum.1 hsum.2 d1 d2)) ?_;simp only[sZa,sZb,sZc];refine tq2 S11.facts 6 8 7 9 ?_;simp only[sZa,sZb,sZc];refine wpAnyH_done (by kernel_rfl) ?_ _;clear hS;go_wp2;go_roundg (m-(i+1));(case measure=>omega);case rel=>exact⟨i+1,a.to,sum+a.out,by go_num,rfl,rfl,by omega,Nat.le_refl _,HN1,HN2,HB7⟩
     · have hltz:¬(i:Int)<(m:Int):=by omega
       have hwt:F=if t.final then some (sum+t.out)else none:=by
        rcases HST.out with⟨h1,_⟩|⟨q,R,h1,h2,h3,h4,h5⟩
        · omega
        · have hq:q=k:=by omega
          subst hq;have e1:=(hI.row q t ht).1;rw[h3]at e1;have hR:R=exp D2 t:=Option.some.inj e1;rw[HFW.out,h4,List.drop_eq_nil_of_le (by have:=HM.out;omega),hR,wt_zero]
       have hto:t.final=true→0≤t.out∧sum+t.out≤1048576:=fun hf=>by
        (have hin:([],t.out)∈exp D2 t:=by unfold exp fins;rw[hf];simp);rcases HST.out with⟨h1,_⟩|⟨q,R,h1,h2,h3,h4,h5⟩
        · omega
        · have hq:q=k:=by omega
          subst hq;have e1:=(hI.row q t ht).1;rw[h3]at e1;have hR:R=exp D2 t:=Option.some.inj e1;have h6:=h5 ([],t.out+sum) (by rw[hR];exact List.mem_map.2 ⟨_,hin,rfl⟩);have h7:=hI.lv R (List.mem_of_getElem? h3);have h8:=zCb (show([],t.out)∈R by rw[hR];exact hin);rw[h7.2]at h8;simp only at h6 h8;omega
       have HWT:Hid (F=if t.final then some (sum+t.out)else none):=hwt;clear hwt x0 x1 x2 hA hna hna2 hbw ht;obtain⟨ft,hft⟩:∃ft,t.final=ft:=⟨_,rfl⟩;rw[hft]at HWT u0 hto;clear hft;cases ft with
       |false=>
        go_wp2;go_ret2;exact⟨by rw[HWT.out];rfl,HBW.out.alloc HBW.out.size _⟩
       |true=>
        obtain⟨o1,o2⟩:=hto rfl;go_wp2;go_ret2;exact⟨by rw[HWT.out];rfl,HBW.out.alloc HBW.out.size _⟩
theorem built_at{B:Nat}{w:World}{vs:Value}{l:List Pr}{b:List St}(h:StRow B w vs b)(hC:zAl l=0)(hb:(zAg l).2=b):StsAt w.heap.size w vs (b.map ofSt):=by
 obtain⟨xss,h1,h2,h3⟩:=h;have hf:=zPa hC;have hlen:=zQn (l:=l);rw[hb]at hf hlen;refine⟨⟨xss,h1.reads,by rw[h2,List.length_map],fun i s hi=>?_⟩,fun s hs=>?_,by rw[List.length_map];omega⟩
 · rw[List.getElem?_map]at hi
   obtain⟨t,ht,rfl⟩:=Option.map_eq_some_iff.1 hi;obtain⟨va,e1,e2⟩:=h3 i t ht;(have hcell:(t.arcs.map zAr).map zBk=t.arcs.map zDj:=by rw[List.map_map];rfl);refine⟨va,e1,⟨by rw[show(ofSt t).arcs=t.arcs.map zAr from rfl,hcell];exact GOwn.reads e2,fun a ha=>?_,?_⟩⟩
   · obtain⟨x,hx,rfl⟩:=List.mem_map.1 ha
     obtain⟨p1,p2,p3⟩:=(hf i t ht).2 x hx;have hi':=(List.getElem?_eq_some_iff.1 ht).1;simp only[OkRA,zAr,zIk,zB3];omega
   · have:=GOwn.reads e2
     obtain⟨ad,cap,e,_⟩:=GOwn.shape e2;have hsm:(t.arcs.map zDj).length≤maxLen:=by
      obtain⟨_,hl,⟨_,h0⟩|⟨g,cap,cur,_,_,_,h3,h4,_⟩⟩:=e2
      · omega
      · omega
     rw[List.length_map]at hsm;unfold maxLen at hsm;show(t.arcs.map zAr).length≤_;rw[List.length_map];omega
 · obtain⟨t,ht,rfl⟩:=List.mem_map.1 hs
   obtain⟨i,hi,rfl⟩:=List.getElem_of_mem ht;have:=(hf i _ (List.getElem?_eq_getElem hi)).1;simp only[ofSt,zB3];omega
theorem StRow.form{B:Nat}{w:World}{vs:Value}{b:List St}(h:StRow B w vs b):∃ad n cap,vs = .slice ad n cap∧b.length=n:=by
 obtain⟨xss,h1,h2,_⟩:=h;obtain⟨ad,cap,h3,_⟩:=h1.shape;exact⟨ad,_,cap,h3,h2.symm⟩
def zNr(B:Nat)(w:World)(wb:Nat)(l:List Pr):Prop:=∀W,w.heap.size≤W.heap.size→(∀j,B≤j→j<w.heap.size→W.heap[j]?=w.heap[j]?)→Tabs W→WkOn W wb l
theorem NewW_lo(B:Nat)(w:World)(l:List Pr)(base:Int)(vs:Value)(b:List St)(hC:zAl l=0)(hrow:StRow B w vs b)(hmach:zAg l=(base,b))(hT:Tabs w):
 Calls Tryz.prog 41 #[.agg #[.int .i64 base,vs]] w fun e w'=>∃wb,e = .returned (.tuple #[.pointer (some ⟨wb,0,none⟩),.bool true])∧w.heap.size≤wb∧zNr w.heap.size w' wb l∧Below w.heap.size w w':=by
 have hb2:(zAg l).2=b:=by rw[hmach]
 have hb1:(zAg l).1=base:=by rw[hmach]
 have hS:=built_at hrow hC hb2;have hr:Pk.rightB base (b.map ofSt)=true:=by have:=zIf hC;rw[hmach]at this;exact this
 have hfew:b.length≤1048576:=by have:=zQn (l:=l);rw[hmach]at this;simp only at this;omega
 obtain⟨D,hI,hF,hM⟩:∃D,Inv D b∧(∀R∈D,R.length≤4096)∧(l≠[]→MW l (zAg l).1 (zAg l).2 D):=by
  by_cases hl:l=[]
  · subst hl
    (have:b=[]:=by rw[←hb2];rfl);subst this;exact⟨[],Inv.nil,fun R hR=>(by cases hR),fun h=>absurd rfl h⟩
  · obtain⟨D,M⟩:=mach_walk hC hl
    exact⟨D,by have:=M.inv;rw[hb2]at this;exact this,M.rst.few,fun _=>M⟩
 have hsm:∀s∈b.map ofSt,s.arcs.length≤1114112:=fun s hs=>by
  obtain⟨t,ht,rfl⟩:=List.mem_map.1 hs;obtain⟨i,hi,rfl⟩:=List.getElem_of_mem ht;exact zLe hC (n:=i) (by rw[hb2];exact List.getElem?_eq_getElem hi)
 refine(New_yes w.heap.size w base b D hI hF vs hS (Nat.le_refl _) hT hfew hr hsm).mono ?_;rintro e w' ⟨wb,rfl,h1,h2,h3⟩;exact⟨wb,rfl,h1,fun W hs hk hTW=>⟨hC,hTW,D,hM,by rw[hb2];exact hI,by rw[hb1,hb2];exact h2 W hs hk⟩,h3⟩
theorem zGb{tmps:Array Value}{w:World}{qb:Nat}{a b c d:Value}(h2:tmps.getD 4 undef = .pointer (some ⟨qb,0,none⟩))(h5:tmps.getD 5 undef=d)(c0:w.cell? ⟨qb,0,none⟩=some a)(c1:w.cell? ⟨qb,1,none⟩=some b)(c2:w.cell? ⟨qb,2,none⟩=some c):(results Tryz.f112 tmps).run Tryz.prog w = .ok (.tuple #[.agg #[a,b,c],d]) w:=by
 have h2':tmps[4]?.getD undef = .pointer (some ⟨qb,0,none⟩):=by simpa using h2
 have h5':tmps[5]?.getD undef=d:=by simpa using h5
 simp[results,Tryz.results112,go_sem,h2',h5',c0,c1,c2]
structure QB(w:World)(qb:Nat)(W:World):Prop where
 bel:Below w.heap.size w W
 lo:w.heap.size≤qb
 blk:W.heap[qb]?=some (.cells #[.bool false,.int .i64 0,.slice none 0 0] 91)
theorem QB.facts{w:World}{qb:Nat}{W:World}(h:QB w qb W):W.cell? ⟨qb,0,none⟩=some (.bool false)∧W.cell? ⟨qb,1,none⟩=some (.int .i64 0)∧W.cell? ⟨qb,2,none⟩=some (.slice none 0 0)∧W.frozen? ⟨qb,0,none⟩=false∧W.frozen? ⟨qb,1,none⟩=false∧W.frozen? ⟨qb,2,none⟩=false:=
 ⟨by simp[World.cell?,h.blk],by simp[World.cell?,h.blk],by simp[World.cell?,h.blk],by simp[World.frozen?,h.blk],by simp[World.frozen?,h.blk],by simp[World.frozen?,h.blk]⟩
theorem QB.below{w:World}{qb:Nat}{W W':World}(h:QB w qb W)(hb:Below W.heap.size W W'):QB w qb W':=⟨h.bel.trans (hb.mono h.bel.size),h.lo,(hb.block qb (Array.getElem?_eq_some_iff.1 h.blk).1).trans h.blk⟩
theorem QB.set{w:World}{qb:Nat}{W:World}(h:QB w qb W)(f:Bool)(o:Int)(va:Value):(((W.setCell ⟨qb,0,none⟩ (.bool f)).setCell ⟨qb,1,none⟩ (.int .i64 o)).setCell ⟨qb,2,none⟩ va).heap[qb]?=some (.cells #[.bool f,.int .i64 o,va] 91)∧Upd (fun k=>k=qb) W (((W.setCell ⟨qb,0,none⟩ (.bool f)).setCell ⟨qb,1,none⟩ (.int .i64 o)).setCell ⟨qb,2,none⟩ va):=
 ⟨by rw[zAu (zAu (zAu h.blk _) _) _];rfl,zBo (F:=fun k=>k=qb) (zBo (F:=fun k=>k=qb) (zBo (F:=fun k=>k=qb) (Upd.refl _ _) _ rfl) _ rfl) _ rfl⟩
theorem QB.start(w:World){qb:Nat}(hq:qb=w.heap.size):QB w qb (w.alloc (.cells #[.bool false,.int .i64 0,.slice none 0 0] 91)):=⟨(Below.refl _ w).alloc (Nat.le_refl _) _,by omega,by rw[hq];exact zAb _ _⟩
theorem State_no(w:World)(wb:Nat)(l:List Pr)(h:WkOn w wb l)(i:Int)(hi:¬(0≤i∧i<((zAg l).2.length:Int))):
 Calls Tryz.prog 112 #[.pointer (some ⟨wb,0,none⟩),.int .i64 i] w fun e w'=>e = .returned (.tuple #[.agg #[.bool false,.int .i64 0,.slice none 0 0],.bool false])∧Below w.heap.size w w':=by
 obtain⟨qb,hqb⟩:∃qb,qb=w.heap.size:=⟨_,rfl⟩;obtain⟨W1,hW1⟩:∃W1,W1=w.alloc (.cells #[.bool false,.int .i64 0,.slice none 0 0] 91):=⟨_,rfl⟩;have HQB:Hid (QB w qb W1):=by show QB _ _ _;rw[hW1];exact QB.start w hqb
 obtain⟨z0,z1,z2,f0,f1,f2⟩:=HQB.out.facts;obtain⟨D,_,_,hWk⟩:=h.at';obtain⟨sd,sc,wd,wc,q0,q1,q2,hSt,_⟩:=hWk.facts;obtain⟨n,hn⟩:∃n,(zAg l).2.length=n:=⟨_,rfl⟩;rw[List.length_map,hn]at q1;rw[hn]at hi;have u1:W1.cell? ⟨wb,1,none⟩=some (.slice sd n sc):=(HQB.out.bel.cell (p:=⟨wb,1,none⟩) hWk.lt).trans q1;clear h hWk q0 q1 q2 hSt hn;by_cases h0:i<0
 · clear hi
   go_enter Tryz.func112,Tryz.ntmps112;(go_upto_region 1 with fail);rw[←hqb,←hW1];clear hqb hW1;go_wp2;obtain⟨e1,e2⟩:=HQB.out.set false 0 (.slice none 0 0);generalize (((W1.setCell ⟨qb,0,none⟩ (.bool false)).setCell ⟨qb,1,none⟩ (.int .i64 0)).setCell ⟨qb,2,none⟩ (.slice none 0 0))=W9 at e1 e2 ⊢;refine bodyPost_ret (zGb (a := .bool false) (b := .int .i64 0) (c := .slice none 0 0) (d := .bool false) rfl rfl (by simp[World.cell?,e1]) (by simp[World.cell?,e1]) (by simp[World.cell?,e1])) rfl ?_;exact⟨rfl,HQB.out.bel.trans (e2.below HQB.out.bel.size (fun k e=>by have:=HQB.out.lo;omega))⟩
 · have h1:(n:Int)≤i:=by omega
   clear hi;go_enter Tryz.func112,Tryz.ntmps112;(go_upto_region 1 with fail);rw[←hqb,←hW1];clear hqb hW1;go_wp2;obtain⟨e1,e2⟩:=HQB.out.set false 0 (.slice none 0 0);generalize (((W1.setCell ⟨qb,0,none⟩ (.bool false)).setCell ⟨qb,1,none⟩ (.int .i64 0)).setCell ⟨qb,2,none⟩ (.slice none 0 0))=W9 at e1 e2 ⊢;refine bodyPost_ret (zGb (a := .bool false) (b := .int .i64 0) (c := .slice none 0 0) (d := .bool false) rfl rfl (by simp[World.cell?,e1]) (by simp[World.cell?,e1]) (by simp[World.cell?,e1])) rfl ?_;exact⟨rfl,HQB.out.bel.trans (e2.below HQB.out.bel.size (fun k e=>by have:=HQB.out.lo;omega))⟩
theorem zXm(w:World)(wb:Nat)(l:List Pr)(h:WkOn w wb l)(k:Nat)(t:St)(ht:(zAg l).2[k]?=some t):
 Calls Tryz.prog 112 #[.pointer (some ⟨wb,0,none⟩),.int .i64 (k:Int)] w fun e w'=>∃ad cap,e = .returned (.tuple #[.agg #[.bool t.final,.int .i64 t.out,.slice ad t.arcs.length cap],.bool true])∧ArcsAt w'.heap.size w' (.slice ad t.arcs.length cap) (t.arcs.map zAr)∧(∀g,(Value.slice ad t.arcs.length cap).ownBlock=some g→w.heap.size≤g∧g<w'.heap.size)∧Below w.heap.size w w':=by
 obtain⟨qb,hqb⟩:∃qb,qb=w.heap.size:=⟨_,rfl⟩;obtain⟨W1,hW1⟩:∃W1,W1=w.alloc (.cells #[.bool false,.int .i64 0,.slice none 0 0] 91):=⟨_,rfl⟩;have HQB:Hid (QB w qb W1):=by show QB _ _ _;rw[hW1];exact QB.start w hqb
 obtain⟨D,_,_,hWk⟩:=h.at';obtain⟨sd,sc,wd,wc,q0,q1,q2,hSt,_⟩:=hWk.facts;obtain⟨n,hn⟩:∃n,(zAg l).2.length=n:=⟨_,rfl⟩;have hlm:((zAg l).2.map ofSt).length=n:=by rw[List.length_map,hn]
 rw[hlm]at q1 hSt;have hkn:=(List.getElem?_eq_some_iff.1 ht).1;rw[hn]at hkn;obtain⟨g,off,va,hgd,hg,x0,x1,x2,hA⟩:=hSt.at (k:=k) (s:=ofSt t) (by rw[List.getElem?_map,ht];rfl);obtain⟨ta,tc,hva⟩:=hA.shape;obtain⟨na,hna⟩:∃na,t.arcs.length=na:=⟨_,rfl⟩;have hna2:(ofSt t).arcs.length=na:=by show(t.arcs.map zAr).length=na;rw[List.length_map,hna]
 rw[hna2]at hva;subst hva;subst hgd;have hb1:=HQB.out.bel;have hlen:=hSt.len;rw[hlm]at hlen;have u1:W1.cell? ⟨wb,1,none⟩=some (.slice (some ⟨g,off,none⟩) n sc):=(hb1.cell (p:=⟨wb,1,none⟩) hWk.lt).trans q1;have y0:W1.cell? ⟨g,off+k*3,none⟩=some (.bool t.final):=(hb1.cell (p:=⟨g,off+k*3,none⟩) hg).trans x0;have y1:W1.cell? ⟨g,off+k*3+1,none⟩=some (.int .i64 t.out):=(hb1.cell (p:=⟨g,off+k*3+1,none⟩) hg).trans x1;have y2:W1.cell? ⟨g,off+k*3+2,none⟩=some (.slice ta na tc):=(hb1.cell (p:=⟨g,off+k*3+2,none⟩) hg).trans x2;have HCL:Hid (Calls Tryz.prog 67 #[.agg #[.bool t.final,.int .i64 t.out,.slice ta na tc]] W1 fun e w'=>∃ad cap,e = .returned (.agg #[.bool t.final,.int .i64 t.out,.slice ad na cap])∧ArcsAt w'.heap.size w' (.slice ad na cap) (t.arcs.map zAr)∧(∀g,(Value.slice ad na cap).ownBlock=some g→W1.heap.size≤g∧g<w'.heap.size)∧Below W1.heap.size W1 w'):=by
  refine(zJp w.heap.size W1 (ofSt t) _ (hA.below hb1) hb1.size (zLe h.ok ht)).mono ?_;rintro e w' ⟨v',rfl,⟨ad,cap,hv⟩,h1,h2,h3⟩;rw[hna2]at hv;subst hv;exact⟨ad,cap,rfl,h1,h2,h3⟩
 have hkz:(k:Int)<(n:Int):=by omega
 have hkz2:¬(n:Int)≤(k:Int):=by omega
 rw[hna];clear h hWk q0 q1 q2 hSt hn hlm ht hA hna hna2 hb1 x0 x1 x2 hg;go_enter Tryz.func112,Tryz.ntmps112;go_upto_region 1 with fail
 rw[←hqb,←hW1];clear hqb hW1;go_wp2_with (go_at_call 67;refine HCL.out.mono ?_;rintro e w2 ⟨ad2,cap2,rfl,hA2,hg2,hb2⟩;have HA2:Hid (ArcsAt w2.heap.size w2 (.slice ad2 na cap2) (t.arcs.map zAr)):=hA2;have HG2:Hid _:=hg2;have HQ2:Hid (QB w qb w2):=HQB.out.below hb2;obtain⟨z0,z1,z2,f0,f1,f2⟩:=HQ2.out.facts;clear hA2 hg2 hb2);obtain⟨e1,e2⟩:=HQ2.out.set t.final t.out (.slice ad2 na cap2);generalize (((w2.setCell ⟨qb,0,none⟩ (.bool t.final)).setCell ⟨qb,1,none⟩ (.int .i64 t.out)).setCell ⟨qb,2,none⟩ (.slice ad2 na cap2))=W9 at e1 e2 ⊢;refine bodyPost_ret (zGb (a := .bool t.final) (b := .int .i64 t.out) (c := .slice ad2 na cap2) (d := .bool true) rfl rfl (by simp[World.cell?,e1]) (by simp[World.cell?,e1]) (by simp[World.cell?,e1])) rfl ?_;have hql:=HQB.out.lo;have hqs:=(Array.getElem?_eq_some_iff.1 HQB.out.blk).1;exact⟨ad2,cap2,rfl,HA2.out.upd e2 (Nat.le_refl _) (fun g hg e=>by have:=(HG2.out g hg).1;omega),(fun g hg=>by have:=HG2.out g hg;have:=HQB.out.bel.size;have:=e2.size;omega),HQ2.out.bel.trans (e2.below HQ2.out.bel.size (fun k e=>by omega))⟩
end
section
open Go.RowKit Nums Fm Pk Fz Ed Lv
def cellsM(m:Mt):List Value:=[.string m.1,.int .i64 m.2.1,.int .i64 m.2.2]
theorem cellsM_ok(m:Mt):zGr 3 (cellsM m):=⟨rfl,by simp[cellsM,Value.oneCell']⟩
theorem rtyM:RTy 74 50 3 32:=⟨by kernel_rfl,⟨.agg #[.string ByteArray.empty,.int .i64 0,.int .i64 0],by kernel_rfl,rfl⟩,by decide,by decide⟩
def zF0(c:Value):List Value:=[c]
theorem rtyF:RTy 1 132 1 8:=⟨by kernel_rfl,⟨.nilFunc,by kernel_rfl,rfl⟩,by decide,by decide⟩
def Sfe(K:Nat→Prop)(W W':World):Prop:=∀(b:Nat) (cur:Array Value) (T:TypeId),K b→W.heap[b]?=some (.cells cur T (0,0))→T≠134→T≠1→T≠74→W'.heap[b]?=W.heap[b]?
structure CloAt(K:Nat→Prop)(W:World)(sb:Nat)(xs:List Int)(d:Nat)(c:Value)(i:It):Prop where
 ex:∃b0 b1 b2 b3 b4,c = .func (.func 117) #[] #[.pointer (some ⟨b0,0,none⟩),.pointer (some ⟨b1,0,none⟩),.pointer (some ⟨b2,0,none⟩),.pointer (some ⟨b3,0,none⟩),.pointer (some ⟨b4,0,none⟩)]∧(K b0∧K b1∧K b2∧K b3∧K b4) ∧
  W.heap[b0]?=some (.cells #[.pointer (some ⟨sb,0,none⟩)] 179 (0,0))∧W.heap[b1]?=some (.cells #[.int .i32 i.lab,.int .i64 i.out,.int .i64 (i.to:Int)] 126 (0,0)) ∧
  W.heap[b2]?=some (.cells #[.string (zAv i.head)] 9 (0,0))∧W.heap[b3]?=some (.cells #[.int .i64 i.wt] 3 (0,0))∧RAt W b4 (rowL xs d (i.head++[i.lab]))
variable {K K' F:Nat→Prop} {B:Nat} {W W' V4:World} {sb wb lb d:Nat} {xs:List Int} {tv fv tv' fv' c:Value} {i:It} {cls:List Value} {its:List It} {fs:List Mt}
theorem CloAt.sfe(h:CloAt K W sb xs d c i)(hs:Sfe K W W'):CloAt K W' sb xs d c i:=by
 obtain⟨b0,b1,b2,b3,b4,hc,⟨k0,k1,k2,k3,k4⟩,h0,h1,h2,h3,h4⟩:=h.ex;exact⟨b0,b1,b2,b3,b4,hc,⟨k0,k1,k2,k3,k4⟩,(hs b0 _ _ k0 h0 (by decide) (by decide) (by decide)).trans h0,(hs b1 _ _ k1 h1 (by decide) (by decide) (by decide)).trans h1,(hs b2 _ _ k2 h2 (by decide) (by decide) (by decide)).trans h2,(hs b3 _ _ k3 h3 (by decide) (by decide) (by decide)).trans h3,(hs b4 _ _ k4 h4 (by decide) (by decide) (by decide)).trans h4⟩
theorem CloAt.weak(h:CloAt K W sb xs d c i)(hk:∀k,K k→k<W.heap.size→K' k):CloAt K' W sb xs d c i:=by
 obtain⟨b0,b1,b2,b3,b4,hc,⟨k0,k1,k2,k3,k4⟩,h0,h1,h2,h3,h4⟩:=h.ex;have lt:∀{b:Nat} {o:Obj},W.heap[b]?=some o→b<W.heap.size:=fun h=>(Array.getElem?_eq_some_iff.1 h).1
 exact⟨b0,b1,b2,b3,b4,hc,⟨hk _ k0 (lt h0),hk _ k1 (lt h1),hk _ k2 (lt h2),hk _ k3 (lt h3),hk _ k4 (lt h4)⟩,h0,h1,h2,h3,h4⟩
structure SrAt(K:Nat→Prop)(B:Nat)(W:World)(sb wb lb:Nat)(xs:List Int)(d:Nat)(tv fv:Value)(cls:List Value)(its:List It)(fs:List Mt):Prop where
 ks:K sb
 lo:B≤sb
 blk:W.heap[sb]?=some (.cells #[.pointer (some ⟨wb,0,none⟩),.pointer (some ⟨lb,0,none⟩),tv,fv] 134 (0,0))
 todo:GOwn 1 1 B W tv (cls.map zF0)
 kt:∀g,tv.ownBlock=some g→K g
 found:GOwn 74 3 B W fv (fs.map cellsM)
 kf:∀g,fv.ownBlock=some g→K g
 len:cls.length=its.length
 clo:∀(j:Nat) (c:Value) (i:It),cls[j]?=some c→its[j]?=some i→CloAt K W sb xs d c i
def SrF(sb:Nat)(tv fv:Value)(k:Nat):Prop:=k=sb∨tv.ownBlock=some k∨fv.ownBlock=some k
theorem SrAt.lt(h:SrAt K B W sb wb lb xs d tv fv cls its fs):sb<W.heap.size:=(Array.getElem?_eq_some_iff.1 h.blk).1
theorem SrAt.facts(h:SrAt K B W sb wb lb xs d tv fv cls its fs):W.cell? ⟨sb,0,none⟩=some (.pointer (some ⟨wb,0,none⟩))∧W.cell? ⟨sb,1,none⟩=some (.pointer (some ⟨lb,0,none⟩))∧W.cell? ⟨sb,2,none⟩=some tv∧W.cell? ⟨sb,3,none⟩=some fv∧∀o,W.frozen? ⟨sb,o,none⟩=false:=
 ⟨by simp[World.cell?,h.blk],by simp[World.cell?,h.blk],by simp[World.cell?,h.blk],by simp[World.cell?,h.blk],fun o=>by simp[World.frozen?,h.blk]⟩
theorem SrAt.keep(h:SrAt K B W sb wb lb xs d tv fv cls its fs)(hu:Upd F W W')(hF:∀k,F k→¬K k):SrAt K B W' sb wb lb xs d tv fv cls its fs:=by
 refine⟨h.ks,h.lo,(hu.block sb h.lt fun f=>hF _ f h.ks).trans h.blk,GOwn.same h.todo fun g hg=>hu.block g (GOwn.lt h.todo hg) fun f=>hF _ f (h.kt g hg),h.kt,GOwn.same h.found fun g hg=>hu.block g (GOwn.lt h.found hg) fun f=>hF _ f (h.kf g hg),h.kf,h.len,fun j c i hc hi=>(h.clo j c i hc hi).sfe fun b cur T hk hb _ _ _=>hu.block b (Array.getElem?_eq_some_iff.1 hb).1 fun f=>hF _ f hk⟩
theorem SrAt.below(h:SrAt K B W sb wb lb xs d tv fv cls its fs)(hb:Below W.heap.size W W'):SrAt K B W' sb wb lb xs d tv fv cls its fs:=h.keep (F:=fun _=>False) (Upd.of_below hb) (fun _ f=>f.elim)
theorem SrAt.weak(h:SrAt K B W sb wb lb xs d tv fv cls its fs)(hk:∀k,K k→k<W.heap.size→K' k):SrAt K' B W sb wb lb xs d tv fv cls its fs:=
 ⟨hk _ h.ks h.lt,h.lo,h.blk,h.todo,fun g hg=>hk _ (h.kt g hg) (GOwn.lt h.todo hg),h.found,fun g hg=>hk _ (h.kf g hg) (GOwn.lt h.found hg),h.len,fun j c i hc hi=>(h.clo j c i hc hi).weak hk⟩
theorem SrAt.apart(h:SrAt K B W sb wb lb xs d tv fv cls its fs):tv.ownBlock≠some sb∧fv.ownBlock≠some sb∧∀g,tv.ownBlock=some g→fv.ownBlock≠some g:=by
 refine⟨fun e=>?_,fun e=>?_,fun g e1 e2=>?_⟩
 · obtain⟨_,cur,h1⟩:=GOwn.block h.todo e
   rw[h.blk]at h1;injection h1 with h1;injection h1 with _ h1;exact absurd h1 (by decide)
 · obtain⟨_,cur,h1⟩:=GOwn.block h.found e
   rw[h.blk]at h1;injection h1 with h1;injection h1 with _ h1;exact absurd h1 (by decide)
 · obtain⟨_,cur,h1⟩:=GOwn.block h.todo e1
   obtain⟨_,cur2,h2⟩:=GOwn.block h.found e2;rw[h1]at h2;injection h2 with h2;injection h2 with _ h2;exact absurd h2 (by decide)
theorem SrAt.sfe(h:SrAt K B W sb wb lb xs d tv fv cls its fs)(hu:Upd (SrF sb tv fv) W W'):Sfe K' W W':=by
 intro b cur T _ hb n1 n2 n3;refine hu.block b (Array.getElem?_eq_some_iff.1 hb).1 ?_;rintro(e|e|e)
 · subst e
   rw[h.blk]at hb;injection hb with hb;injection hb with _ hb;exact n1 hb.symm
 · obtain⟨_,cur,h1⟩:=GOwn.block h.todo e
   rw[hb]at h1;injection h1 with h1;injection h1 with _ h1;exact n2 h1
 · obtain⟨_,cur,h1⟩:=GOwn.block h.found e
   rw[hb]at h1;injection h1 with h1;injection h1 with _ h1;exact n3 h1
theorem SrF.lo(h:SrAt K B W sb wb lb xs d tv fv cls its fs){k:Nat}(hk:SrF sb tv fv k):B≤k:=by
 rcases hk with e|e|e
 · have:=h.lo;omega
 · exact(GOwn.block h.todo e).1
 · exact(GOwn.block h.found e).1
theorem SrF.pos(h:SrAt K B W sb wb lb xs d tv fv cls its fs){k:Nat}(hk:SrF sb tv fv k):K k:=by
 rcases hk with e|e|e
 · subst e;exact h.ks
 · exact h.kt k e
 · exact h.kf k e
theorem SrAt.pushM(h:SrAt K B W sb wb lb xs d tv fv cls its fs)(m:Mt)(hb4:Below W.heap.size W V4)(hg:V4.grownBy W' fv.ownBlock)(ho:GOwn 74 3 B W' fv' (fs.map cellsM++[cellsM m]))(hob:fv'.ownBlock=fv.ownBlock∨∃g,fv'.ownBlock=some g∧V4.heap.size≤g)(hK:∀g,W.heap.size≤g→K g):
 SrAt K B (W'.setCell ⟨sb,3,none⟩ fv') sb wb lb xs d tv fv' cls its (fs++[m])∧Upd (SrF sb tv fv) W (W'.setCell ⟨sb,3,none⟩ fv')∧W'.cell? ⟨sb,3,none⟩=some fv∧W'.frozen? ⟨sb,3,none⟩=false:=by
 obtain⟨a1,a2,a3⟩:=h.apart;have hlt:=h.lt;have hu1:Upd (fun j=>fv.ownBlock=some j) W W':=(Upd.of_below hb4).trans (G:=fun j=>fv.ownBlock=some j) ⟨hg.os,hg.tape,hg.output,hg.size,fun j hj hn=>hg.block j hj (fun e=>hn e.symm)⟩ (fun _ _ g=>g);have hblk:W'.heap[sb]?=some (.cells #[.pointer (some ⟨wb,0,none⟩),.pointer (some ⟨lb,0,none⟩),tv,fv] 134 (0,0)):=(hu1.block sb hlt a2).trans h.blk;have hu2:Upd (fun j=>j=sb) W' (W'.setCell ⟨sb,3,none⟩ fv'):=zBp W' sb 3 fv';have hu3:Upd (fun j=>j=sb∨fv.ownBlock=some j) W (W'.setCell ⟨sb,3,none⟩ fv'):=(hu1.mono fun j e => .inr e).trans (hu2.mono (G:=fun j=>j=sb∨fv.ownBlock=some j) fun j e => .inl e) (fun _ _ g=>g);have hu:Upd (SrF sb tv fv) W (W'.setCell ⟨sb,3,none⟩ fv'):=hu3.mono fun j e=>e.elim .inl (fun g => .inr (.inr g))
 have hns:fv'.ownBlock≠some sb:=fun e=>by
  rcases hob with e2|⟨g,e2,h2⟩
  · exact a2 (e2▸e)
  · rw[e2]at e;cases e;have:=hb4.size;omega
 refine⟨⟨h.ks,h.lo,by rw[zAu hblk];rfl,GOwn.same h.todo fun g hg=>hu3.block g (GOwn.lt h.todo hg) ?_,h.kt,?_,fun g hg=>?_,h.len,fun j c i hc hi=>(h.clo j c i hc hi).sfe (h.sfe hu)⟩,hu,by simp[World.cell?,hblk],by simp[World.frozen?,hblk]⟩
 · rintro(e|e)
   · exact a1 (e▸hg)
   · exact a3 g hg e
 · rw[List.map_append]
   exact GOwn.same ho fun g hg=>hu2.block g (GOwn.lt ho hg) fun e=>hns (e▸hg)
 · rcases hob with e2|⟨g2,e2,h2⟩
   · exact h.kf g (e2▸hg)
   · rw[e2]at hg;cases hg;exact hK _ (Nat.le_trans hb4.size h2)
theorem SrAt.pushT(h:SrAt K B W sb wb lb xs d tv fv cls its fs)(hb4:Below W.heap.size W V4)(hg:V4.grownBy W' tv.ownBlock)(ho:GOwn 1 1 B W' tv' (cls.map zF0++[zF0 c]))(hob:tv'.ownBlock=tv.ownBlock∨∃g,tv'.ownBlock=some g∧V4.heap.size≤g)(hK:∀g,W.heap.size≤g→K g)(hc:CloAt K W sb xs d c i):
 SrAt K B (W'.setCell ⟨sb,2,none⟩ tv') sb wb lb xs d tv' fv (cls++[c]) (its++[i]) fs∧Upd (SrF sb tv fv) W (W'.setCell ⟨sb,2,none⟩ tv')∧W'.cell? ⟨sb,2,none⟩=some tv∧W'.frozen? ⟨sb,2,none⟩=false:=by
 obtain⟨a1,a2,a3⟩:=h.apart;have hlt:=h.lt;have hu1:Upd (fun j=>tv.ownBlock=some j) W W':=(Upd.of_below hb4).trans (G:=fun j=>tv.ownBlock=some j) ⟨hg.os,hg.tape,hg.output,hg.size,fun j hj hn=>hg.block j hj (fun e=>hn e.symm)⟩ (fun _ _ g=>g);have hblk:W'.heap[sb]?=some (.cells #[.pointer (some ⟨wb,0,none⟩),.pointer (some ⟨lb,0,none⟩),tv,fv] 134 (0,0)):=(hu1.block sb hlt a1).trans h.blk;have hu2:Upd (fun j=>j=sb) W' (W'.setCell ⟨sb,2,none⟩ tv'):=zBp W' sb 2 tv';have hu3:Upd (fun j=>j=sb∨tv.ownBlock=some j) W (W'.setCell ⟨sb,2,none⟩ tv'):=(hu1.mono fun j e => .inr e).trans (hu2.mono (G:=fun j=>j=sb∨tv.ownBlock=some j) fun j e => .inl e) (fun _ _ g=>g);have hu:Upd (SrF sb tv fv) W (W'.setCell ⟨sb,2,none⟩ tv'):=hu3.mono fun j e=>e.elim .inl (fun g => .inr (.inl g))
 have hns:tv'.ownBlock≠some sb:=fun e=>by
  rcases hob with e2|⟨g,e2,h2⟩
  · exact a1 (e2▸e)
  · rw[e2]at e;cases e;have:=hb4.size;omega
 refine⟨⟨h.ks,h.lo,by rw[zAu hblk];rfl,?_,fun g hg=>?_,GOwn.same h.found fun g hg=>hu3.block g (GOwn.lt h.found hg) ?_,h.kf,by simp[h.len],fun j c2 i2 hc2 hi2=>?_⟩,hu,by simp[World.cell?,hblk],by simp[World.frozen?,hblk]⟩
 · rw[List.map_append]
   exact GOwn.same ho fun g hg=>hu2.block g (GOwn.lt ho hg) fun e=>hns (e▸hg)
 · rcases hob with e2|⟨g2,e2,h2⟩
   · exact h.kt g (e2▸hg)
   · rw[e2]at hg;cases hg;exact hK _ (Nat.le_trans hb4.size h2)
 · rintro(e|e)
   · exact a2 (e▸hg)
   · exact a3 g e hg
 · by_cases hj:j<cls.length
   · rw[List.getElem?_append_left hj]at hc2
     rw[List.getElem?_append_left (by rw[←h.len];exact hj)]at hi2;exact(h.clo j c2 i2 hc2 hi2).sfe (h.sfe hu)
   · have hj2:=(List.getElem?_eq_some_iff.1 hc2).1
     rw[List.length_append,List.length_singleton]at hj2;(have hje:j=cls.length:=by omega);rw[List.getElem?_append_right (by omega),hje,Nat.sub_self]at hc2;rw[List.getElem?_append_right (by rw[←h.len];omega),hje,h.len,Nat.sub_self]at hi2;simp only[List.getElem?_cons_zero,Option.some.injEq]at hc2 hi2;subst hc2;subst hi2;exact hc.sfe (h.sfe hu)
theorem SrAt.pop(h:SrAt K B W sb wb lb xs d tv fv (cls++[c]) (its++[i]) fs):∃g cap,tv = .slice (some ⟨g,0,none⟩) (cls.length+1) cap∧cls.length+1≤cap∧W.cell? ⟨g,cls.length,none⟩=some c∧CloAt K W sb xs d c i ∧
 SrAt K B (W.setCell ⟨sb,2,none⟩ (.slice (some ⟨g,0,none⟩) cls.length cap)) sb wb lb xs d (.slice (some ⟨g,0,none⟩) cls.length cap) fv cls its fs∧Upd (SrF sb tv fv) W (W.setCell ⟨sb,2,none⟩ (.slice (some ⟨g,0,none⟩) cls.length cap)):=by
 obtain⟨a1,a2,a3⟩:=h.apart;have hr:=h.todo
 rw[List.map_append]at hr;obtain⟨g,cap,hv,hc,ho⟩:=GOwn.pop hr;obtain⟨g2,cap2,hv2,_,_,_,hcell⟩:=GOwn.cell hr (by simp);rw[hv]at hv2;simp only[Value.slice.injEq,Option.some.injEq,Addr.mk.injEq,and_true,List.length_map]at hv2 hv hc ho;have hg2:g=g2:=hv2.1;subst hg2;have hu2:=zBp W sb 2 (.slice (some ⟨g,0,none⟩) cls.length cap);have hgo:tv.ownBlock=some g:=by rw[hv];rfl
 have hll:cls.length=its.length:=by have:=h.len;simp at this;exact this
 refine⟨g,cap,hv,hc,?_,h.clo cls.length c i (by simp) (by rw[hll];simp),⟨h.ks,h.lo,by rw[zAu h.blk];rfl,GOwn.same ho fun g' hg'=>?_,fun g' hg'=>?_,GOwn.same h.found fun g' hg'=>hu2.block g' (GOwn.lt h.found hg') (fun e=>a2 (e▸hg')),h.kf,hll,fun j c2 i2 hc2 hi2=>?_⟩,hu2.mono fun j e => .inl e⟩
 · have:=hcell cls.length 0 (zF0 c) c (by rw[List.getElem?_append_right (by simp)];simp) rfl
   simpa using this
 · cases hg'
   exact hu2.block g (GOwn.lt ho rfl) (fun e=>a1 (e▸hgo))
 · cases hg'
   exact h.kt g hgo
 · refine(h.clo j c2 i2 (by rw[List.getElem?_append_left (List.getElem?_eq_some_iff.1 hc2).1];exact hc2) (by rw[List.getElem?_append_left (List.getElem?_eq_some_iff.1 hi2).1];exact hi2)).sfe (h.sfe (hu2.mono fun j e => .inl e))
end
section
open Go.RowKit Nums Fm Pk Fz Ed Lv
def Off(d6 k:Nat):Prop:=k≠d6∧k≠d6+1
def zGc(xs:List Int)(d:Nat)(head:List Int)(wt:Int)(l:List Arc)(k:Nat):List It:=((l.reverse.take k).filter (live xs d head)).map (itOf head wt)
theorem zR7(xs:List Int)(d:Nat)(head:List Int)(wt:Int)(l:List Arc):zGc xs d head wt l 0=[]:=rfl
theorem zUh(xs:List Int)(d:Nat)(head:List Int)(wt:Int)(l:List Arc):zGc xs d head wt l l.length=push xs d head wt l:=by
 unfold zGc push;rw[List.take_of_length_le (by simp)]
theorem zI9(xs:List Int)(d:Nat)(head:List Int)(wt:Int){l:List Arc}{k:Nat}{a:Arc}(hk:k<l.length)(ha:l[l.length-1-k]?=some a):zGc xs d head wt l (k+1)=zGc xs d head wt l k++(if live xs d head a then [itOf head wt a]else []):=by
 have h1:l.reverse[k]?=some a:=by rw[List.getElem?_reverse hk];exact ha
 unfold zGc;rw[List.take_add_one,h1,List.filter_append,List.map_append];congr 1;simp only[Option.toList_some,List.filter_cons,List.filter_nil]
 split<;>rfl
theorem zUg(xs:List Int)(d:Nat)(head:List Int)(wt:Int)(l:List Arc)(k:Nat):(zGc xs d head wt l k).length≤k:=by
 unfold zGc;rw[List.length_map];refine Nat.le_trans (List.length_filter_le _ _) ?_;rw[List.length_take];exact Nat.min_le_left _ _
structure VI(B sb wb lb:Nat)(xs:List Int)(d:Nat)(tv fv5:Value)(its:List It)(fs5:List Mt)(head:List Int)(wt:Int)(arcs:List Arc)(W6:World)(k:Nat)(V:World):Prop where
 ex:∃tv' cls',SrAt (Off W6.heap.size) B V sb wb lb xs d tv' fv5 cls' (its++zGc xs d head wt arcs k) fs5∧∀g,tv'.ownBlock=some g→tv.ownBlock=some g∨W6.heap.size≤g
 upd:Upd (SrF sb tv fv5) W6 V
variable {B sb wb lb:Nat} {xs:List Int} {d:Nat} {tv fv5:Value} {its:List It} {fs5:List Mt} {head:List Int} {wt:Int} {arcs:List Arc} {W6 V V':World} {k:Nat} {cls:List Value}
theorem VI.minds(h:VI B sb wb lb xs d tv fv5 its fs5 head wt arcs W6 k V)(hu:Upd (fun j=>j=W6.heap.size∨j=W6.heap.size+1) V V'):VI B sb wb lb xs d tv fv5 its fs5 head wt arcs W6 k V':=by
 obtain⟨tv',cls',h1,h2⟩:=h.ex;refine⟨⟨tv',cls',h1.keep hu fun j hj ho=>?_,h2⟩,h.upd.trans hu fun j hj e=>by omega⟩;rcases hj with e|e
 · exact ho.1 e
 · exact ho.2 e
theorem VI.start(h:SrAt (fun _=>True) B W6 sb wb lb xs d tv fv5 cls its fs5):VI B sb wb lb xs d tv fv5 its fs5 head wt arcs W6 0 W6:=by
 refine⟨⟨tv,cls,?_,fun g hg => .inl hg⟩,Upd.refl _ _⟩;rw[zR7,List.append_nil];exact h.weak fun _ _ hj=>⟨by omega,by omega⟩
theorem VI.stop(h:VI B sb wb lb xs d tv fv5 its fs5 head wt arcs W6 arcs.length V):∃tv' cls',SrAt (fun _=>True) B V sb wb lb xs d tv' fv5 cls' (its++push xs d head wt arcs) fs5:=by
 obtain⟨tv',cls',h1,_⟩:=h.ex;rw[zUh]at h1;exact⟨tv',cls',h1.weak fun _ _ _=>trivial⟩
theorem VI.sfe(h:VI B sb wb lb xs d tv fv5 its fs5 head wt arcs W6 k V)(h6:SrAt (fun _=>True) B W6 sb wb lb xs d tv fv5 cls its fs5):Sfe (fun _=>True) W6 V:=h6.sfe h.upd
theorem VI.bel{w0:World}(h:VI B sb wb lb xs d tv fv5 its fs5 head wt arcs W6 k V)(h6:SrAt (fun _=>True) B W6 sb wb lb xs d tv fv5 cls its fs5)(hb:Below w0.heap.size w0 W6)(hB:w0.heap.size≤B):Below w0.heap.size w0 V:=
 hb.trans (h.upd.below hb.size fun _ hj=>Nat.le_trans hB (SrF.lo h6 hj))
theorem VI.skip{a:Arc}(h:VI B sb wb lb xs d tv fv5 its fs5 head wt arcs W6 k V)(hb:Below V.heap.size V V')(hk:k<arcs.length)(ha:arcs[arcs.length-1-k]?=some a)(hl:live xs d head a=false):VI B sb wb lb xs d tv fv5 its fs5 head wt arcs W6 (k+1) V':=by
 obtain⟨tv',cls',h1,h2⟩:=h.ex;refine⟨⟨tv',cls',?_,h2⟩,h.upd.trans (Upd.of_below (F:=fun _=>False) hb) (fun _ _ g=>g.elim)⟩;rw[zI9 _ _ _ _ hk ha,hl];simpa using h1.below hb
theorem VI.push{a:Arc}{tv1 tv2 c:Value}{cls1:List Value}{V0 V4:World}(hu0:Upd (SrF sb tv fv5) W6 V0)(hs0:SrAt (Off W6.heap.size) B V0 sb wb lb xs d tv1 fv5 cls1 (its++zGc xs d head wt arcs k) fs5)(hn0:∀g,tv1.ownBlock=some g→tv.ownBlock=some g∨W6.heap.size≤g)(hlt:W6.heap.size+1<V0.heap.size)
 (hk:k<arcs.length) (ha:arcs[arcs.length-1-k]?=some a) (hl:live xs d head a=true) (hb4:Below V0.heap.size V0 V4) (hg:V4.grownBy V' tv1.ownBlock) (ho:GOwn 1 1 B V' tv2 (cls1.map zF0++[zF0 c])) (hob:tv2.ownBlock=tv1.ownBlock∨∃g,tv2.ownBlock=some g∧V4.heap.size≤g) (hc:CloAt (Off W6.heap.size) V0 sb xs d c (itOf head wt a)):
 VI B sb wb lb xs d tv fv5 its fs5 head wt arcs W6 (k+1) (V'.setCell ⟨sb,2,none⟩ tv2)∧Upd (SrF sb tv1 fv5) V0 (V'.setCell ⟨sb,2,none⟩ tv2)∧V'.cell? ⟨sb,2,none⟩=some tv1∧V'.frozen? ⟨sb,2,none⟩=false:=by
 obtain⟨g1,g2,g3,g4⟩:=hs0.pushT hb4 hg ho hob (fun g hg=>⟨by omega,by omega⟩) hc;refine⟨⟨⟨tv2,cls1++[c],?_,fun g hg=>?_⟩,hu0.trans g2 fun j hj e=>?_⟩,g2,g3,g4⟩
 · rw[zI9 _ _ _ _ hk ha,hl,if_pos rfl,←List.append_assoc]
   exact g1
 · rcases hob with e2|⟨g2,e2,h2⟩
   · exact hn0 g (e2▸hg)
   · rw[e2]at hg;cases hg;have:=hb4.size;exact .inr (by omega)
 · rcases e with e|e|e
   · exact .inl e
   · rcases hn0 j e with e2|e2
     · exact .inr (.inl e2)
     · omega
   · exact .inr (.inr e)
end
