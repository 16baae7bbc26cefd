/- Texts that were written apart, joined. -/
import Derived.Test.YthecngkdmnadoaaGreatG32
namespace Go.Proofs.YthecngkdmnadoaaGreat
open Go.RowKit
set_option maxRecDepth 100000
set_option maxHeartbeats 4000000 in
theorem take_any(N b number:Nat)(g:LG)(v:WV)(fp:List Nat)(s:List Sv)(w:World)(h:LogAt N w b g v fp s)(hok:LOk g)(hN:N<137438953472)(hnum:number≤1152921504606846976)(hsm:g.L.length<68719476736)
 (hB:∀i u,curOf g.d.secs ((4*number+1:Nat):Int) i=some u→∀y∈u,y<256):
 Calls Tryz.prog 39 #[.pointer (some ⟨b,0,none⟩),.int .u64 (number:Int)] w (LogSays N b (takeG g number) v fp w):=by
 have HL:Hid (LogAt N w b g v fp s):=h;have hask:=ask_any N v.p g.d fp number w h.disk (by omega) hnum hB;have hT:∀y∈textS g.d.secs ((4*number+1:Nat):Int),y<256:=textF_byte hB _ _;have hTl:(textS g.d.secs ((4*number+1:Nat):Int)).length≤4128768:=Nat.le_trans (textF_len _ _) (by decide);have hix:=askR_most hT;obtain⟨ix,rest,ae,hA⟩:∃ix rest ae,askR (textS g.d.secs ((4*number+1:Nat):Int))=(ix,rest,ae):=⟨_,_,_,rfl⟩;have HA:Hid (askR (textS g.d.secs ((4*number+1:Nat):Int))=(ix,rest,ae)):=hA;rw[hA]at hask hix
 dsimp only at hask hix
 obtain⟨c0,-,-,-,-,-,-,-,-,-,-⟩:=h.cells;have hrecs:=hok.recs;have hlast:=hok.last;have hmany:=hok.many;have HPN:Hid (v.pn=g.l.length):=h.len.2;clear h hok hA hT hB;by_cases h0:ae=0
 · subst h0
   have HAS:Hid (Calls Tryz.prog 66 #[.pointer (some ⟨v.p,0,none⟩),.int .u64 (number:Int)] w fun e w'=>Below w.heap.size w w'∧∃rb cb,e = .returned (.tuple #[.int .u64 (ix:Int),.func (.func 88) #[] #[.pointer (some ⟨cb,0,none⟩)],.bool true])∧w.heap.size≤rb∧w.heap.size≤cb∧AskAt w.heap.size w' rb cb rest 0):=by
    refine hask.mono ?_;rintro e w' ⟨h1,⟨h2,_⟩|⟨_,h2⟩⟩
    · exact absurd rfl h2
    · exact⟨h1,h2⟩
   have HE:Hid (∀W,LogAt N W b g v fp s→Calls Tryz.prog 55 #[.pointer (some ⟨b,0,none⟩)] W fun e w'=>e = .returned (.int .u64 ((g.first+g.L.length:Nat):Int))∧∃k,w'=W.drewN k):=fun W hW=>
    wend_any W b g.n v hW.wal (show g.first+g.L.length<_ by omega) (show g.L.length≤_ by omega)
   clear hask;by_cases hbad:¬g.l.length=0∧¬ix<g.first∧g.first+g.L.length<ix
   · obtain⟨q1,q2,q3⟩:=hbad
     (have hg:takeG g number=(52,g):=by unfold takeG;rw[HA.out,if_neg (by simp),if_pos (by simp only;omega)]);rw[hg];(have q1z:((v.pn:Int)==0)=false:=by have:=HPN.out;simpa using(by omega:¬(v.pn:Int)=0));(have q2z:¬(ix:Int)<(g.first:Int):=by omega);obtain⟨m,hm⟩:∃m,g.first+g.L.length=m:=⟨_,rfl⟩;rw[hm]at HE;(have q3z:(m:Int)<(ix:Int):=by omega);clear q1 q2 q3 hm hg;go_enter Tryz.func39,Tryz.ntmps39
     go_wp2_with (first
      |(go_at_call 66;refine HAS.out.mono ?_;rintro e w1 ⟨hb1,rb,cb,rfl,hrb,hcb,hask⟩;have H1:Hid (Below w.heap.size w w1):=hb1;obtain⟨-,d1,d2,d3,-,-,-,-,-,-,-⟩:=(HL.out.below hb1).cells;clear hb1 hask)
      |(go_at_call 55;refine(HE.out _ (HL.out.below H1.out)).mono ?_;rintro e w2 ⟨rfl,k2,rfl⟩))
     go_ret;refine HL.out.stays (belowN H1.out _) ?_;omega
   · have HBAD:Hid (takeG g number=recsR (rest.length+1) (headR g number ix) rest):=by
      show _=_;unfold takeG;rw[HA.out,if_neg (by simp),if_neg (by simp only;omega)]
     (have hcase:(g.l.length=0∨(¬g.l.length=0∧ix<g.first))∨(¬g.l.length=0∧¬ix<g.first∧¬g.first+g.L.length<ix):=by omega);clear hbad;rcases hcase with(q1|⟨q1,q2⟩)|⟨q1,q2,q3⟩
     focus
      have HH:Hid (headR g number ix={ g with first:=ix,L:=[],l:=g.l++[(number,ix)] }):=if_pos (.inl q1);(have q1z:((v.pn:Int)==0)=true:=by have:=HPN.out;simpa using(by omega:(v.pn:Int)=0));clear q1;go_enter Tryz.func39,Tryz.ntmps39
      go_wp2_with (first
       |(go_at_call 66;refine HAS.out.mono ?_;rintro e w1 ⟨hb1,rb,cb,rfl,hrb,hcb,hask⟩;have H1:Hid (Below w.heap.size w w1∧w.heap.size≤rb∧w.heap.size≤cb∧AskAt w.heap.size w1 rb cb rest 0):=⟨hb1,hrb,hcb,hask⟩;obtain⟨-,d1,d2,d3,-,-,-,-,-,-,dz⟩:=(HL.out.below hb1).cells;have HF1:=LogAt.fresh (HL.out.below hb1) ix;have HF:Hid (LogAt N ((w1.setCell ⟨b,1,none⟩ (.int .u64 (ix:Int))).setCell ⟨b,2,none⟩ (.slice none 0 0)) b { g with first:=ix,L:=[] } { v with ra:=none,rc:=0 } fp []∧Only [b] w1 ((w1.setCell ⟨b,1,none⟩ (.int .u64 (ix:Int))).setCell ⟨b,2,none⟩ (.slice none 0 0))):=HF1;clear hb1 hask hrb hcb HF1)
       |(at_builtin;obtain⟨W,hW⟩:∃W,(w1.setCell ⟨b,1,none⟩ (.int .u64 (ix:Int))).setCell ⟨b,2,none⟩ (.slice none 0 0)=W:=⟨_,rfl⟩;have hsz:w1.heap.size=W.heap.size:=(by rw[←hW];simp[World.setCell]);rw[hW]at HF ⊢;have hba:Below W.heap.size W (W.alloc (.cells #[.int .u64 (number:Int),.int .u64 (ix:Int)] 115)):=(Below.refl _ W).alloc (Nat.le_refl _) _;refine append_q1L rfl _ _ (number,ix) rfl w1.heap.size 1 v.pa v.pn v.pc g.l rfl (HF.out.1.pl.below hba) rfl (by rw[hsz];exact TwoQ.new W (number,ix) _) (by omega) ?_;intro a9 c9 w9 hq9 ho9 ha9;have HP:=LogAt.placed HF.out.1 hba hq9 ho9 ha9;have H9:Hid (Ready N b rb cb w (w9.setCell ⟨b,3,none⟩ (.slice a9 (g.l.length+1) c9)) v { v with ra:=none,rc:=0,pa:=a9,pn:=g.l.length+1,pc:=c9 } fp { g with first:=ix,L:=[],l:=g.l++[(number,ix)] } [] rest 0):=take_ready HL.out (v1:={ v with ra:=none,rc:=0 }) (logF_none b v fp) ((Only.of_below H1.out.1).then HF.out.2 (fun k hk=>by simp[logF,List.mem_singleton.1 hk])) (H1.out.2.2.2.only HF.out.2 H1.out.2.1 H1.out.2.2.1 (fun k hk => .inl (by rw[List.mem_singleton.1 hk];exact HL.out.wal.lt))) H1.out.2.1 H1.out.2.2.1 HP.1 HP.2.1 HP.2.2.1 rfl;obtain⟨-,-,-,e3,ez3⟩:=HP;clear hq9 ho9 ha9 hba d1 d2 d3 dz hsz hW HF))
      obtain⟨v2,hv2⟩:∃v2:WV,{ v with ra:=none,rc:=0,pa:=a9,pn:=g.l.length+1,pc:=c9 }=v2:=⟨_,rfl⟩;obtain⟨s2,hs2⟩:∃s2:List Sv,[]=s2:=⟨_,rfl⟩;rw[hv2,hs2,←HH.out]at H9;clear hv2 hs2 HH
     rotate_left
     focus
      have HH:Hid (headR g number ix={ g with first:=ix,L:=[],l:=g.l++[(number,ix)] }):=if_pos (.inr q2);(have q1z:((v.pn:Int)==0)=false:=by have:=HPN.out;simpa using(by omega:¬(v.pn:Int)=0));(have q2z:(ix:Int)<(g.first:Int):=by omega);clear q1 q2;go_enter Tryz.func39,Tryz.ntmps39
      go_wp2_with (first
       |(go_at_call 66;refine HAS.out.mono ?_;rintro e w1 ⟨hb1,rb,cb,rfl,hrb,hcb,hask⟩;have H1:Hid (Below w.heap.size w w1∧w.heap.size≤rb∧w.heap.size≤cb∧AskAt w.heap.size w1 rb cb rest 0):=⟨hb1,hrb,hcb,hask⟩;obtain⟨-,d1,d2,d3,-,-,-,-,-,-,dz⟩:=(HL.out.below hb1).cells;have HF1:=LogAt.fresh (HL.out.below hb1) ix;have HF:Hid (LogAt N ((w1.setCell ⟨b,1,none⟩ (.int .u64 (ix:Int))).setCell ⟨b,2,none⟩ (.slice none 0 0)) b { g with first:=ix,L:=[] } { v with ra:=none,rc:=0 } fp []∧Only [b] w1 ((w1.setCell ⟨b,1,none⟩ (.int .u64 (ix:Int))).setCell ⟨b,2,none⟩ (.slice none 0 0))):=HF1;clear hb1 hask hrb hcb HF1)
       |(at_builtin;obtain⟨W,hW⟩:∃W,(w1.setCell ⟨b,1,none⟩ (.int .u64 (ix:Int))).setCell ⟨b,2,none⟩ (.slice none 0 0)=W:=⟨_,rfl⟩;have hsz:w1.heap.size=W.heap.size:=(by rw[←hW];simp[World.setCell]);rw[hW]at HF ⊢;have hba:Below W.heap.size W (W.alloc (.cells #[.int .u64 (number:Int),.int .u64 (ix:Int)] 115)):=(Below.refl _ W).alloc (Nat.le_refl _) _;refine append_q1L rfl _ _ (number,ix) rfl w1.heap.size 1 v.pa v.pn v.pc g.l rfl (HF.out.1.pl.below hba) rfl (by rw[hsz];exact TwoQ.new W (number,ix) _) (by omega) ?_;intro a9 c9 w9 hq9 ho9 ha9;have HP:=LogAt.placed HF.out.1 hba hq9 ho9 ha9;have H9:Hid (Ready N b rb cb w (w9.setCell ⟨b,3,none⟩ (.slice a9 (g.l.length+1) c9)) v { v with ra:=none,rc:=0,pa:=a9,pn:=g.l.length+1,pc:=c9 } fp { g with first:=ix,L:=[],l:=g.l++[(number,ix)] } [] rest 0):=take_ready HL.out (v1:={ v with ra:=none,rc:=0 }) (logF_none b v fp) ((Only.of_below H1.out.1).then HF.out.2 (fun k hk=>by simp[logF,List.mem_singleton.1 hk])) (H1.out.2.2.2.only HF.out.2 H1.out.2.1 H1.out.2.2.1 (fun k hk => .inl (by rw[List.mem_singleton.1 hk];exact HL.out.wal.lt))) H1.out.2.1 H1.out.2.2.1 HP.1 HP.2.1 HP.2.2.1 rfl;obtain⟨-,-,-,e3,ez3⟩:=HP;clear hq9 ho9 ha9 hba d1 d2 d3 dz hsz hW HF))
      obtain⟨v2,hv2⟩:∃v2:WV,{ v with ra:=none,rc:=0,pa:=a9,pn:=g.l.length+1,pc:=c9 }=v2:=⟨_,rfl⟩;obtain⟨s2,hs2⟩:∃s2:List Sv,[]=s2:=⟨_,rfl⟩;rw[hv2,hs2,←HH.out]at H9;clear hv2 hs2 HH
     rotate_left
     focus
      have HH:Hid (headR g number ix={ g with L:=g.L.take (ix-g.first),l:=g.l++[(number,ix)] }):=if_neg (by omega);(have q1z:((v.pn:Int)==0)=false:=by have:=HPN.out;simpa using(by omega:¬(v.pn:Int)=0));(have q2z:¬(ix:Int)<(g.first:Int):=by omega);(have HCU:Hid (∀W,LogAt N W b g v fp s→Calls Tryz.prog 67 #[.pointer (some ⟨b,0,none⟩),.int .u64 (ix:Int)] W fun e w'=>e = .returned (.tuple #[])∧LogAt N w' b { g with L:=g.L.take (ix-g.first) } v fp (s.take (ix-g.first))∧Only (b::ownB v.ra) W w'):=fun W hW=>cut_log N b ix g v fp s W hW (by omega) (by omega) (by omega));obtain⟨m,hm⟩:∃m,g.first+g.L.length=m:=⟨_,rfl⟩;rw[hm]at HE;(have q3z:¬(m:Int)<(ix:Int):=by omega);clear q1 q2 q3 hm;go_enter Tryz.func39,Tryz.ntmps39
      go_wp2_with (first
       |(go_at_call 66;refine HAS.out.mono ?_;rintro e w1 ⟨hb1,rb,cb,rfl,hrb,hcb,hask⟩;have H1:Hid (Below w.heap.size w w1∧w.heap.size≤rb∧w.heap.size≤cb∧AskAt w.heap.size w1 rb cb rest 0):=⟨hb1,hrb,hcb,hask⟩;obtain⟨-,d1,d2,d3,-,-,-,-,-,-,dz⟩:=(HL.out.below hb1).cells;clear hb1 hask hrb hcb)
       |(go_at_call 55;refine(HE.out _ (HL.out.below H1.out.1)).mono ?_;rintro e w2 ⟨rfl,k2,rfl⟩;clear d1 d2 d3 dz)
       |(go_at_call 67;refine(HCU.out _ (HL.out.below (belowN H1.out.1 _))).mono ?_;rintro e W ⟨rfl,hLW,hoW⟩;have HF:Hid (LogAt N W b { g with L:=g.L.take (ix-g.first) } v fp (s.take (ix-g.first))∧Only (b::ownB v.ra) (w1.drewN k2) W):=⟨hLW,hoW⟩;obtain⟨-,d1,d2,d3,-,-,-,-,-,-,dz⟩:=hLW.cells;clear hLW hoW)
       |(at_builtin;have hba:Below W.heap.size W (W.alloc (.cells #[.int .u64 (number:Int),.int .u64 (ix:Int)] 115)):=(Below.refl _ W).alloc (Nat.le_refl _) _;refine append_q1L rfl _ _ (number,ix) rfl W.heap.size 1 v.pa v.pn v.pc g.l rfl (HF.out.1.pl.below hba) rfl (TwoQ.new W (number,ix) _) (by omega) ?_;intro a9 c9 w9 hq9 ho9 ha9;have HP:=LogAt.placed HF.out.1 hba hq9 ho9 ha9;have hoF:Only (b::ownB v.ra) w W:=(Only.of_below (belowN H1.out.1 k2)).then HF.out.2 (fun _ h=>h);have H9:Hid (Ready N b rb cb w (w9.setCell ⟨b,3,none⟩ (.slice a9 (g.l.length+1) c9)) v { v with pa:=a9,pn:=g.l.length+1,pc:=c9 } fp { g with L:=g.L.take (ix-g.first),l:=g.l++[(number,ix)] } (s.take (ix-g.first)) rest 0):=take_ready HL.out (v1:=v) (fun _ h=>h) (hoF.wider (logF_ra b v fp)) (AskAt.only (w:=w1.drewN k2) H1.out.2.2.2 HF.out.2 H1.out.2.1 H1.out.2.2.1 (fun k hk => .inl (HL.out.lt k (logF_ra b v fp k hk)))) H1.out.2.1 H1.out.2.2.1 HP.1 HP.2.1 HP.2.2.1 rfl;obtain⟨-,-,-,e3,ez3⟩:=HP;clear hq9 ho9 ha9 hba d1 d2 d3 dz HF hoF))
      obtain⟨v2,hv2⟩:∃v2:WV,{ v with pa:=a9,pn:=g.l.length+1,pc:=c9 }=v2:=⟨_,rfl⟩;obtain⟨s2,hs2⟩:∃s2:List Sv,s.take (ix-g.first)=s2:=⟨_,rfl⟩;rw[hv2,hs2,←HH.out]at H9;clear hv2 hs2 HH
     rotate_left
     all_goals
      obtain⟨w10,hw10⟩:∃w10,w9.setCell ⟨b,3,none⟩ (.slice a9 (g.l.length+1) c9)=w10:=⟨_,rfl⟩;rw[hw10]at H9 ⊢;clear hw10 e3 ez3 c0 hmany;refine(Ready.next H9.out).mono ?_;rintro r w11 ⟨sv0,rfl,hR,hrow⟩;obtain⟨g2,hg2⟩:∃g2,headR g number ix=g2:=⟨_,rfl⟩;have HG2:Hid (headR g number ix=g2∧g2.first≤4611686018427387904∧g2.L.length≤g.L.length):=by
       refine⟨hg2,?_⟩;rw[←hg2];unfold headR
       split
       · exact⟨hix,Nat.zero_le _⟩
       · exact⟨hlast,by simp only[List.length_take];omega⟩
      rw[hg2]at hR H9;have hrl:rest.length≤4128768:=by
       have h1:=askR_rest (textS g.d.secs ((4*number+1:Nat):Int));rw[HA.out]at h1;exact Nat.le_trans h1 hTl
      have HST:Hid (Ready N b rb cb w w11 v v2 fp g2 s2 (bytesR rest 0 512).2.1 (bytesR rest 0 512).2.2∧RowX (logF b v2 fp) w11 (encS sv0) (bytesR rest 0 512).1∧(∀y∈rest,y<256)):=⟨hR,hrow,H9.out.ask.1.bytes⟩;clear hR hrow hg2 HAS HE;clear H9 H1;go_wp2_with fail
      go_loopg [8,9] rest.length (fun m t8 t9 wr=>∃(f:Nat) (xs:List Nat) (v':WV) (s':List Sv) (g':LG) (sv:Sv),t8=encS sv∧t9 = .bool ((bytesR xs 0 512).2.2==0)∧xs.length≤m∧xs.length≤f∧g'.L.length+xs.length≤68723605504∧g'.first=g2.first∧Hid (Ready N b rb cb w wr v v' fp g' s' (bytesR xs 0 512).2.1 (bytesR xs 0 512).2.2∧RowX (logF b v' fp) wr (encS sv) (bytesR xs 0 512).1∧(∀y∈xs,y<256)∧recsR (f+1) g' xs=recsR (rest.length+1) g2 rest))
      case atStart=>exact⟨rest.length,rest,v2,s2,g2,sv0,rfl,rfl,Nat.le_refl _,Nat.le_refl _,by have:=HG2.out.2.2;omega,rfl,⟨HST.out.1,HST.out.2.1,HST.out.2.2,rfl⟩⟩
      case round=>
       clear HST;obtain⟨f,xs,v',s',g',sv,rfl,rfl,hm,hxf,hgx,hgf,H⟩:=hrel;have hgf2:=HG2.out.2.1;have HGF:Hid (g'.first=g2.first):=hgf;rw[←hgf]at hgf2;clear hgf;by_cases hb0:(bytesR xs 0 512).2.2=0
       · have hless:=bytesR_less H.out.2.2.1 hb0
         have HB0:Hid ((bytesR xs 0 512).2.2=0):=hb0;obtain⟨x1,xs2,be,hbx⟩:∃x1 xs2 be,bytesR xs 0 512=(x1,xs2,be):=⟨_,_,_,rfl⟩;have HBX:Hid (bytesR xs 0 512=(x1,xs2,be)):=hbx;rw[hbx]at hb0 hless H ⊢
         dsimp only at hb0 hless H ⊢
         subst hb0;clear hbx;have hwe:=wend_any wr b g'.n v' H.out.1.log.wal (show g'.first+g'.L.length<_ by omega) (show g'.L.length≤_ by omega);obtain⟨en,hen⟩:∃en,g'.first+g'.L.length=en:=⟨_,rfl⟩;have HEN:Hid (g'.first+g'.L.length=en):=hen;(have hwe2:Calls Tryz.prog 55 #[.pointer (some ⟨b,0,none⟩)] wr fun e w'=>e = .returned (.int .u64 (en:Int))∧∃k,w'=wr.drewN k:=by rw[←hen];exact hwe);have HWE:Hid (Calls Tryz.prog 55 #[.pointer (some ⟨b,0,none⟩)] wr fun e w'=>e = .returned (.int .u64 (en:Int))∧∃k,w'=wr.drewN k):=hwe2;clear hwe hwe2 hen;by_cases h62:en=4611686018427387904
         · have h62z:((en:Int)==4611686018427387904)=true:=by simp[h62]
           have H62:Hid (en=4611686018427387904):=h62;clear h62;go_wp2_with (go_at_call 55;refine HWE.out.mono ?_;rintro e w3 ⟨rfl,k3,rfl⟩);go_ret;have hg:takeG g number=(52,g'):=by
            rw[HBAD.out,HG2.out.1,←H.out.2.2.2];exact recsR_full HB0.out (by rw[HEN.out];exact H62.out)
           rw[hg];exact⟨rfl,v',fp,s',H.out.1.log.below (belowN (Below.refl _ _) _),H.out.1.p,H.out.1.only.drewN _,H.out.1.sub⟩
         · have h62z:((en:Int)==4611686018427387904)=false:=by simpa using(by omega:¬(en:Int)=4611686018427387904)
           have HRC:Hid (recsR f { g' with L:=g'.L++[x1] } xs2=recsR (rest.length+1) g2 rest):=by
            show _=_;rw[←H.out.2.2.2,recsR_go HB0.out (by rw[HEN.out];exact h62),HBX.out]
           clear h62;obtain⟨sa,sn,sc⟩:=sv;have he:encS (sa,sn,sc) = .slice sa sn sc:=rfl;rw[he];clear he;have hsl:s'.length=g'.L.length:=H.out.1.log.len.1;obtain⟨-,-,q2,-,-,-,-,-,-,-,qz⟩:=H.out.1.log.cells
           go_wp2_with (first
            |(go_at_call 55;refine HWE.out.mono ?_;rintro e w3 ⟨rfl,k3,rfl⟩)
            |(at_builtin;have hba:Below wr.heap.size wr ((wr.drewN k3).alloc (.cells #[.slice sa sn sc] 34)):=(belowN (Below.refl _ wr) k3).alloc (Nat.le_refl _) _;obtain⟨w6,hw6⟩:∃w6,(wr.drewN k3).alloc (.cells #[.slice sa sn sc] 34)=w6:=⟨_,rfl⟩;have hx6:w6.cell? ⟨wr.heap.size,0,none⟩=some (encS (sa,sn,sc)):=(by rw[←hw6];exact new_cellN wr k3 _ _);rw[hw6]at hba ⊢;refine append_s1L rfl _ _ (sa,sn,sc) rfl wr.heap.size 1 v'.ra g'.L.length v'.rc s' rfl (H.out.1.log.below hba).recs rfl hx6 (by omega) ?_;intro a8 c8 w8 hq8 ho8 ha8;rw[hsl]at hq8 ⊢;have hw8:WalAt w8 b g'.n v':=(ho8.block b (H.out.1.log.below hba).wal.lt (fun hm=>(H.out.1.log.raf b hm).2.1 rfl)).trans (H.out.1.log.below hba).wal;have hob:Only [b] w8 (w8.setCell ⟨b,2,none⟩ (.slice a8 (g'.L.length+1) c8)):=(Only.refl [b] w8).setCell (by simp) _ _;have HR12:Hid (Ready N b rb cb w (w8.setCell ⟨b,2,none⟩ (.slice a8 (g'.L.length+1) c8)) v { v' with ra:=a8,rc:=c8 } fp { g' with L:=g'.L++[x1] } (s'++[(sa,sn,sc)]) xs2 0):=Ready.app H.out.1 hba (H.out.2.1.step (Only.of_below hba) (fun k hk => .inl hk)) ((ho8.wider (fun k hk=>by simp[hk])).then hob (fun k hk=>by simp[List.mem_singleton.1 hk])) (hw8.record x1 a8 c8) (hq8.only hob (fun k hk hm=>by rw[List.mem_singleton.1 hm]at hk;rcases ha8 b hk with h|h;exact(H.out.1.log.raf b h).2.1 rfl;have:=(H.out.1.log.below hba).wal.lt;omega)) ha8;have e2:=hw8.cells.2.2.1;have ez2:=hw8.cells.2.2.2.2.2.2.2.2.2.2 2;clear hq8 ho8 ha8 hw8 hob hba hx6 hw6 q2 qz))
           obtain⟨w12,hw12⟩:∃w12,w8.setCell ⟨b,2,none⟩ (.slice a8 (g'.L.length+1) c8)=w12:=⟨_,rfl⟩;rw[hw12]at HR12 ⊢;clear hw12 e2 ez2;refine(Ready.next HR12.out).mono ?_;rintro r w13 ⟨sv2,rfl,hR2,hrow2⟩;have HN13:Hid (Ready N b rb cb w w13 v { v' with ra:=a8,rc:=c8 } fp { g' with L:=g'.L++[x1] } (s'++[(sa,sn,sc)]) (bytesR xs2 0 512).2.1 (bytesR xs2 0 512).2.2∧RowX (logF b { v' with ra:=a8,rc:=c8 } fp) w13 (encS sv2) (bytesR xs2 0 512).1∧(∀y∈xs2,y<256)):=⟨hR2,hrow2,HR12.out.ask.1.bytes⟩;clear hR2 hrow2;obtain⟨F,rfl⟩:∃F,f=F+1:=⟨f-1,by omega⟩;go_wp2_with fail;go_roundg xs2.length;(case measure=>omega);case rel=>exact⟨F,xs2,{ v' with ra:=a8,rc:=c8 },s'++[(sa,sn,sc)],{ g' with L:=g'.L++[x1] },sv2,rfl,rfl,Nat.le_refl _,by omega,by simp only[List.length_append,List.length_singleton];omega,HGF.out,⟨HN13.out.1,HN13.out.2.1,HN13.out.2.2,HRC.out⟩⟩
       · have hbz:((bytesR xs 0 512).2.2==0)=false:=by simpa using hb0
         have HRC:Hid (recsR (rest.length+1) g2 rest=(0,g')):=by
          show _=_;rw[←H.out.2.2.2];exact recsR_end hb0
         rw[hbz];clear hbz hb0;go_wp2_with fail;go_ret;(have hg:takeG g number=(0,g'):=by rw[HBAD.out,HG2.out.1];exact HRC.out);rw[hg];exact⟨rfl,v',fp,s',H.out.1.log,H.out.1.p,H.out.1.only,H.out.1.sub⟩
 · have hne:¬ae=0:=h0
   (have hg:takeG g number=(0,g):=by unfold takeG;rw[HA.out,if_pos hne]);rw[hg];have HAS:Hid (Calls Tryz.prog 66 #[.pointer (some ⟨v.p,0,none⟩),.int .u64 (number:Int)] w fun e w'=>Below w.heap.size w w'∧e = .returned (.tuple #[.int .u64 0,.nilFunc,.bool false])):=by
    refine hask.mono ?_;rintro e w' ⟨h1,⟨_,h2⟩|⟨h2,_⟩⟩
    · exact⟨h1,h2⟩
    · exact absurd h2 hne
   clear hg h0 hask;go_enter Tryz.func39,Tryz.ntmps39;go_wp2_with (go_at_call 66;refine HAS.out.mono ?_;rintro e w1 ⟨hb1,rfl⟩);go_ret;refine HL.out.stays hb1 ?_;omega
end Go.Proofs.YthecngkdmnadoaaGreat

namespace Go.Proofs.YthecngkdmnadoaaGreat
open Go.RowKit
set_option maxRecDepth 100000
def tidyR(d:DS):List Nat→List Pl→Int×DS
 |[],_=>(0,d)
 |n::r,t=>if t.head?.map Prod.fst=some n then (if stepE d=0 then tidyR (syD d ((4*n+1:Nat):Int)) r t.tail else (stepE d,syD d ((4*n+1:Nat):Int)))
  else (if stepE d=0 then tidyR (frD d ((4*n+1:Nat):Int)) r t else (stepE d,frD d ((4*n+1:Nat):Int)))
def tidyG(g:LG)(xs:List Nat):Int×LG:=((tidyR g.d xs g.l).1,{ g with d:=(tidyR g.d xs g.l).2 })
def NRow(F:List Nat)(w:World)(v:Value)(xs:List Nat):Prop:=
 ∃ad cap,v = .slice ad xs.length cap∧(0<xs.length→∃g,ad=some ⟨g,0,none⟩∧g<w.heap.size∧g∉F∧∀(i x:Nat),xs[i]?=some x→w.cell? ⟨g,i,none⟩=some (.int .u64 (x:Int)))
theorem NRow.step{F F':List Nat}{w w':World}{v:Value}{xs:List Nat}(h:NRow F w v xs)(ho:Only F w w')(hs:∀k∈F',k∈F∨w.heap.size≤k):NRow F' w' v xs:=by
 obtain⟨ad,cap,rfl,hc⟩:=h;refine⟨ad,cap,rfl,fun h0=>?_⟩;obtain⟨g,rfl,h1,h2,h3⟩:=hc h0;refine⟨g,rfl,Nat.lt_of_lt_of_le h1 ho.size,fun hm=>?_,fun i x hx=>?_⟩
 · rcases hs g hm with h|h
   · exact h2 h
   · omega
 · rw[←h3 i x hx]
   simp[World.cell?,ho.block g h1 h2]
theorem NRow.at{F:List Nat}{w:World}{ad:Option Addr}{n cap:Nat}{xs:List Nat}(h:NRow F w (.slice ad n cap) xs){i x:Nat}(hx:xs[i]?=some x):∃g,ad=some ⟨g,0,none⟩∧g<w.heap.size∧w.cell? ⟨g,i,none⟩=some (.int .u64 (x:Int)):=by
 obtain⟨ad',cap',e,hc⟩:=h;simp only[Value.slice.injEq]at e;have hl:=(List.getElem?_eq_some_iff.1 hx).1;obtain⟨g,h1,h2,h3,h4⟩:=hc (by omega);exact⟨g,by rw[e.1,h1],h2,h4 i x hx⟩
structure TiI(N b:Nat)(g:LG)(v:WV)(fp:List Nat)(s:List Sv)(w:World)(nv:Value)(xs:List Nat)(i j:Nat)(ad:Option Addr)(cap:Nat)(d':DS)(fp':List Nat)(wr:World):Prop where
 hj:j≤g.l.length
 log:LogAt (N+i) wr b { g with d:=d' } v fp' s
 only:Only (logF b v fp) w wr
 sub:∀k∈logF b v fp',k∈logF b v fp∨w.heap.size≤k
 rest:tidyR g.d xs g.l=tidyR d' (xs.drop i) (g.l.drop j)
 pos:j<g.l.length→∃gb,v.pa=some ⟨gb,0,none⟩∧ad=some ⟨gb,j*2,none⟩
 cap:g.l.length-j≤cap
 row:NRow (logF b v fp') wr nv xs
theorem TiI.head{N b:Nat}{g:LG}{v:WV}{fp:List Nat}{s:List Sv}{w:World}{nv:Value}{xs:List Nat}{i j:Nat}{ad:Option Addr}{cap:Nat}{d':DS}{fp':List Nat}{wr:World}(h:TiI N b g v fp s w nv xs i j ad cap d' fp' wr){x:Pl}(hx:g.l[j]?=some x):
 ∃gb,ad=some ⟨gb,j*2,none⟩∧v.pa=some ⟨gb,0,none⟩∧TwoQ wr gb (j*2) x:=by
 have hl:=(List.getElem?_eq_some_iff.1 hx).1;obtain⟨gb,h1,h2⟩:=h.pos hl;have hr:=h.log.pl.row;have hpn:v.pn=g.l.length:=h.log.len.2;rw[h1]at hr;obtain⟨g2,off,e,_,hc⟩:=hr.at (by omega);simp only[Option.some.injEq,Addr.mk.injEq]at e;obtain⟨rfl,rfl,_⟩:=e;have:=hc j x hx;rw[Nat.zero_add]at this;exact⟨gb,h2,h1,this⟩
end Go.Proofs.YthecngkdmnadoaaGreat
