/- Texts that were written apart, joined. -/
import Derived.Test.YthecngkdmnadoaaGreatG31
import Derived.Test.YthecngkdmnadoaaGreatG27
import Derived.Test.YthecngkdmnadoaaGreatWalT
import Derived.Test.YthecngkdmnadoaaGreatG01
namespace Go.Proofs.YthecngkdmnadoaaGreat
open Go.RowKit
set_option maxRecDepth 100000
theorem take_some{α:Type}{l:List α}{j a:Nat}{x:α}(h:(l.take j)[a]?=some x):l[a]?=some x:=by
 rw[List.getElem?_take]at h
 split at h
 · exact h
 · cases h
theorem LogAt.part{N M:Nat}{w w':World}{b:Nat}{g g':LG}{v v':WV}{fp fp':List Nat}{s s':List Sv}(h:LogAt N w b g v fp s)(ho:Only (logF b v fp) w w')(hd:DiskAt M w' v.p g'.d fp')(hs:∀k∈fp',k∈fp∨w.heap.size≤k)(hw:WalAt w' b g'.n v')
 (hq:QOwn 0 w' (.slice v.pa v'.pn v'.pc) g'.l) (hr:SOwn 0 w' (.slice v.ra g'.L.length v'.rc) s') (hrow:∀(i:Nat) (x:Sv) (xs:List Nat),s'[i]?=some x→g'.L[i]?=some xs→∃j:Nat,s[j]?=some x∧g.L[j]?=some xs)
 (ep:v'.p=v.p) (era:v'.ra=v.ra) (epa:v'.pa=v.pa) (eta:v'.ta=v.ta) (etc:v'.tc=v.tc) (etl:g'.tl=g.tl):LogAt M w' b g' v' fp' s'∧∀k∈logF b v' fp',k∈logF b v fp∨w.heap.size≤k:=by
 have hF:logF b v' fp'=logF b v fp':=by unfold logF;rw[era,epa]
 have hsub:∀k∈logF b v' fp',k∈logF b v fp∨w.heap.size≤k:=by rw[hF];exact logF_sub hs
 have hbl:=h.wal.lt;have hpl:=QOwn.ltB h.pl;have hrl:=h.recs.lt;refine⟨⟨by rw[ep];exact hd,hw,by rw[epa];exact hq,by rw[era];exact hr,fun i x xs q1 q2=>?_,by rw[eta,etc,etl];exact h.tail.step ho hsub,fun hb=>?_,fun x hx=>?_,fun x hx=>?_⟩,hsub⟩
 · obtain⟨j,j1,j2⟩:=hrow i x xs q1 q2
   exact(h.rows j x xs j1 j2).step ho hsub
 · rcases hs b hb with h1|h1
   · exact h.bf h1
   · omega
 · rw[epa]at hx
   refine⟨fun hf=>?_,(h.paf x hx).2⟩;rcases hs x hf with h1|h1
   · exact(h.paf x hx).1 h1
   · have:=hpl x hx;omega
 · rw[era]at hx
   refine⟨fun hf=>?_,(h.raf x hx).2.1,by rw[epa];exact(h.raf x hx).2.2⟩;rcases hs x hf with h1|h1
   · exact(h.raf x hx).1 h1
   · have:=hrl x hx;omega
def truncG(g:LG)(i:Nat):Int×LG:=
 if ¬g.fault=0 then (g.fault,g)
 else if i<g.first∨g.first+g.L.length<i then (51,g)
 else if i=g.first+g.L.length then (0,g)
 else if ¬(beginG g i []).1=0 then ((beginG g i []).1,(keepG (beginG g i [])).2)
 else (0,{ (keepG (beginG g i [])).2 with L:=(keepG (beginG g i [])).2.L.take (i-g.first) })
def compG(g:LG)(i:Nat):Int×LG:=
 if ¬g.fault=0 then (g.fault,g)
 else if g.first+g.L.length<i then (51,g)
 else if i≤g.first then (0,g)
 else if ¬(aheadR g.d (g.area:Int) g.l i).1=0 then ((aheadR g.d (g.area:Int) g.l i).1,{ g with d:=(aheadR g.d (g.area:Int) g.l i).2,fault:=(aheadR g.d (g.area:Int) g.l i).1 })
 else (0,{ g with d:=(aheadR g.d (g.area:Int) g.l i).2,first:=i,L:=g.L.drop (i-g.first),l:=g.l.drop (downTo g.l i (g.l.length-1)),fault:=0 })
theorem beginG_first(g:LG)(ix:Nat)(x:List Nat):(beginG g ix x).2.first=g.first:=by
 unfold beginG
 repeat' split
 all_goals rfl
theorem keepG_first(r:Int×LG):(keepG r).2.first=r.2.first:=by unfold keepG;split<;>rfl
set_option maxHeartbeats 2000000 in
theorem Comp_log(N b i:Nat)(g:LG)(v:WV)(fp:List Nat)(s:List Sv)(w:World)(h:LogAt N w b g v fp s)(hok:LOk g)(hN:N<137438953472):
 Calls Tryz.prog 29 #[.pointer (some ⟨b,0,none⟩),.int .u64 (i:Int)] w (LogSays (N+g.l.length+32) b (compG g i) v fp w):=by
 have hrecs:=hok.recs;have hlast:=hok.last;have hmany:=hok.many;by_cases hf:g.fault=0
 · by_cases h1:g.first+g.L.length<i
   · refine(Compact_range b i g.n v w h.wal hf (show g.first+g.L.length<_ by omega) (show g.L.length≤_ by omega) h1).mono ?_
     rintro e w' ⟨rfl,k,rfl⟩;(have hg:compG g i=(51,g):=by unfold compG;rw[if_neg (by simp[hf]),if_pos h1]);rw[hg];exact h.stays (belowN (Below.refl _ _) _) (by omega)
   · by_cases h2:i≤g.first
     · refine(Compact_none b i g.n v w h.wal hf (show g.first+g.L.length<_ by omega) (show g.L.length≤_ by omega) h2).mono ?_
       rintro e w' ⟨rfl,k,rfl⟩;(have hg:compG g i=(0,g):=by unfold compG;rw[if_neg (by simp[hf]),if_neg h1,if_pos h2]);rw[hg];exact h.stays (belowN (Below.refl _ _) _) (by omega)
     · have hpn:=h.len.2
       have hsl:=h.len.1;(have hi2:i-g.first≤g.L.length:=by omega);refine(Compact_walk 0 N b i g.d fp g.n v g.l s w h.disk h.wal (by omega) h.pl (by omega) h.recs (show g.L.length<_ by omega) hlast h.bf h.paf h.raf hok.pl hf (show g.first<i by omega) (show i≤g.first+g.L.length by omega)).mono ?_;obtain⟨ra,rd,hr⟩:∃ra rd,aheadR g.d (g.area:Int) g.l i=(ra,rd):=⟨_,_,rfl⟩;have hr':aheadR g.d (g.n.area:Int) g.l i=(ra,rd):=hr;rw[hr'];rintro e w' ⟨rfl,⟨fp',hd,hs⟩,ho,⟨h0,hw,hq,hso⟩|⟨h0,hw,hq,hso⟩⟩
       · dsimp only at h0 hd
         subst h0;have hg:compG g i=(0,{ g with d:=rd,first:=i,L:=g.L.drop (i-g.first),l:=g.l.drop (downTo g.l i (g.l.length-1)),fault:=0 }):=by
          unfold compG;rw[if_neg (by simp[hf]),if_neg h1,if_neg h2,hr,if_neg (by simp)]
         rw[hg];have hl:(g.L.drop (i-g.first)).length=g.L.length-(i-g.first):=List.length_drop ..
         have hp:=LogAt.part (g':={ g with d:=rd,first:=i,L:=g.L.drop (i-g.first),l:=g.l.drop (downTo g.l i (g.l.length-1)),fault:=0 }) (v':={ v with pn:=v.pn-downTo g.l i (g.l.length-1) }) (s':=s.drop (i-g.first)) h ho (hd.mono (show _≤N+g.l.length+32 by omega)) hs (by
          show WalAt w' b (⟨i,(g.L.drop (i-g.first)).length,g.next,g.area,g.sector,g.tl.length,g.adrift,0⟩) _;rw[hl];exact hw) hq (by
          show SOwn 0 w' (.slice v.ra (g.L.drop (i-g.first)).length v.rc) _;rw[hl];exact hso) (fun j x xs q1 q2=>⟨(i-g.first)+j,by rw[←List.getElem?_drop];exact q1,by rw[←List.getElem?_drop];exact q2⟩) rfl rfl rfl rfl rfl rfl
         exact⟨rfl,_,fp',_,hp.1,rfl,ho,hp.2⟩
       · dsimp only at h0 hd
         have hg:compG g i=(ra,{ g with d:=rd,fault:=ra }):=by
          unfold compG;rw[if_neg (by simp[hf]),if_neg h1,if_neg h2,hr,if_pos h0]
         rw[hg];have hp:=LogAt.part (g':={ g with d:=rd,fault:=ra }) (v':=v) (s':=s) h ho (hd.mono (show _≤N+g.l.length+32 by omega)) hs hw hq hso (fun j x xs q1 q2=>⟨j,q1,q2⟩) rfl rfl rfl rfl rfl rfl;exact⟨rfl,_,fp',_,hp.1,rfl,ho,hp.2⟩
 · refine(Compact_fault b i g.n v w h.wal hf).mono ?_
   rintro e w' ⟨rfl,rfl⟩;have hg:compG g i=(g.fault,g):=if_pos hf;rw[hg];exact h.stays (Below.refl _ _) (by omega)
set_option maxHeartbeats 2000000 in
theorem Trunc_log(N b i:Nat)(g:LG)(v:WV)(fp:List Nat)(s:List Sv)(w:World)(h:LogAt N w b g v fp s)(hok:LOk g)(hN:N<137438953472)(hi:i<18446744073709551616):
 Calls Tryz.prog 42 #[.pointer (some ⟨b,0,none⟩),.int .u64 (i:Int)] w (LogSays (N+g.l.length+32) b (truncG g i) v fp w):=by
 have hrecs:=hok.recs;have hlast:=hok.last;have hmany:=hok.many;by_cases hf:g.fault=0
 · obtain⟨-,c1,-,-,-,-,-,-,-,c9,-⟩:=h.cells
   rw[hf]at c9;have HL:Hid (LogAt N w b g v fp s):=h;have HOK:Hid (LOk g):=hok;have HF:Hid (g.fault=0):=hf
   have HE:Hid (∀W,W.heap=w.heap→Calls Tryz.prog 55 #[.pointer (some ⟨b,0,none⟩)] W fun e w'=>e = .returned (.int .u64 ((g.first+g.L.length:Nat):Int))∧∃k,w'=W.drewN k):=fun W hW=>
    wend_any W b g.n v (show W.heap[b]?=_ by rw[hW];exact HL.out.wal) (show g.first+g.L.length<_ by omega) (show g.L.length≤_ by omega)
   clear h hok hf;by_cases h1:i<g.first
   · have h1z:(i:Int)<(g.first:Int):=by omega
     (have hg:truncG g i=(51,g):=by unfold truncG;rw[if_neg (by simp[HF.out]),if_pos (.inl h1)]);rw[hg];clear h1 hg;go_enter Tryz.func42,Tryz.ntmps42;go_wp2_with fail;go_ret;refine HL.out.stays (Below.refl _ _) ?_;omega
   · have h1z:¬(i:Int)<(g.first:Int):=by omega
     obtain⟨m,hm⟩:∃m,g.first+g.L.length=m:=⟨_,rfl⟩;rw[hm]at HE;by_cases h2:m<i
     · have h2z:(m:Int)<(i:Int):=by omega
       (have hg:truncG g i=(51,g):=by unfold truncG;rw[if_neg (by simp[HF.out]),if_pos (.inr (by omega))]);rw[hg];clear h1 h2 hg hm;go_enter Tryz.func42,Tryz.ntmps42;go_wp2_with (go_at_call 55;refine(HE.out _ rfl).mono ?_;rintro e w0 ⟨rfl,k0,rfl⟩);go_ret;refine HL.out.stays (belowN (Below.refl _ _) _) ?_;omega
     · have h2z:¬(m:Int)<(i:Int):=by omega
       by_cases h3:i=m
       · have hg:truncG g i=(0,g):=by unfold truncG;rw[if_neg (by simp[HF.out]),if_neg (by omega),if_pos (by omega)]
         rw[hg];(have h3z:((i:Int)==(m:Int))=true:=by simp[h3]);clear h1 h2 h3 hg hm;go_enter Tryz.func42,Tryz.ntmps42;go_wp2_with (first|(go_at_call 55;refine(HE.out w rfl).mono ?_;rintro e w0 ⟨rfl,k0,rfl⟩)|(go_at_call 55;refine(HE.out (w.drewN k0) rfl).mono ?_;rintro e w0 ⟨rfl,k1,rfl⟩));go_ret;refine HL.out.stays (belowN (Below.refl _ _) _) ?_;omega
       · have h3z:((i:Int)==(m:Int))=false:=by simpa using(by omega:¬(i:Int)=(m:Int))
         obtain⟨re,rg,hr⟩:∃re rg,beginG g i []=(re,rg):=⟨_,_,rfl⟩;have HR:Hid (beginG g i []=(re,rg)):=hr;have H123:Hid (¬(i<g.first∨g.first+g.L.length<i)∧¬i=g.first+g.L.length∧g.first≤i∧i≤g.first+g.L.length):=⟨by omega,by omega,by omega,by omega⟩;have HRL:Hid (rg.L=g.L∧rg.first=g.first):=by
          have q1:=beginG_L g i [];have q2:=beginG_first g i [];rw[hr]at q1 q2;exact⟨q1,q2⟩
         have HB:Hid (∀k,Calls Tryz.prog 49 #[.pointer (some ⟨b,0,none⟩),.int .u64 (i:Int),.slice none 0 0] (w.drewN k) (LogSays (N+([]:List Nat).length+g.l.length+16) b (re,rg) v fp (w.drewN k))):=fun k=>by
          have:=begin_any N b i g v fp s [] (.slice none 0 0) (w.drewN k) (HL.out.below (belowN (Below.refl _ _) _)) (Bytes.nil 0 _).row hN hi (by simp) HOK.out.next HOK.out.pl HOK.out.many
          rw[hr]at this;exact this
         (have HM:Hid (N+([]:List Nat).length+g.l.length+16≤N+g.l.length+32):=by show _≤_;simp only[List.length_nil];omega);obtain⟨M,hM⟩:∃M,N+([]:List Nat).length+g.l.length+16=M:=⟨_,rfl⟩;rw[hM]at HB HM;clear h1 h2 h3 hm hr hM;go_enter Tryz.func42,Tryz.ntmps42
         go_wp2_with (first
          |(go_at_call 55;refine(HE.out w rfl).mono ?_;rintro e w0 ⟨rfl,k0,rfl⟩)
          |(go_at_call 55;refine(HE.out (w.drewN k0) rfl).mono ?_;rintro e w0 ⟨rfl,k1,rfl⟩)
          |(go_at_call 49;refine(HB.out _).mono ?_;rintro e w2 ⟨rfl,v2,fp2,s2,hL2,hp2,ho2,hs2⟩;have H2:Hid (LogAt M w2 b rg v2 fp2 s2∧v2.p=v.p∧Only (logF b v fp) w w2∧∀k∈logF b v2 fp2,k∈logF b v fp∨w.heap.size≤k):=⟨hL2,hp2,⟨ho2.os,ho2.tape,ho2.output,ho2.size,ho2.block⟩,hs2⟩;clear hL2 hp2 ho2 hs2 HB))
         refine(keepL_any _ b rg v2 fp2 s2 re w2 H2.out.1).mono ?_;rintro e w3 ⟨rfl,hL3,ho3⟩;obtain⟨kg,hkg⟩:∃kg,(keepG (re,rg)).2=kg:=⟨_,rfl⟩;have HKG:Hid ((keepG (re,rg)).2=kg):=hkg;rw[hkg]at hL3;have hkL:kg.L=g.L∧kg.first=g.first:=by
          rw[←hkg,keepG_L,keepG_first];exact HRL.out
         have hO3:Only (logF b v fp) w w3:=H2.out.2.2.1.then ho3 (fun k hk=>by simp[logF,List.mem_singleton.1 hk]);have H3:Hid (LogAt M w3 b kg v2 fp2 s2∧Only (logF b v fp) w w3∧(∀k∈logF b v2 fp2,k∈logF b v fp∨w.heap.size≤k)∧kg.L=g.L∧kg.first=g.first):=⟨hL3,hO3,H2.out.2.2.2,hkL.1,hkL.2⟩;clear hL3 ho3 hO3 hkg hkL;by_cases h0:re=0
         · subst h0
           obtain⟨j,hj⟩:∃j,i-g.first=j:=⟨_,rfl⟩;have HJ:Hid (i-g.first=j):=hj;(have hjl:j≤kg.L.length:=by rw[H3.out.2.2.2.1];have:=H123.out.2.2;omega);have HC:Hid (Calls Tryz.prog 67 #[.pointer (some ⟨b,0,none⟩),.int .u64 i] w3 fun e w'=>e = .returned (.tuple #[])∧WalAt w' b { kg.n with many:=j } v2∧SOwn 0 w' (.slice v2.ra j v2.rc) (s2.take j)∧Only (b::ownB v2.ra) w3 w'):=by
            have q1:=H3.out.2.2.2.1;have q2:=H3.out.2.2.2.2;have q3:=H123.out.2.2;have:=cut_any 0 b i kg.n v2 s2 w3 H3.out.1.wal H3.out.1.recs (show kg.first≤i by omega) (show i≤kg.first+kg.L.length by rw[q1];omega) (show kg.L.length<_ by rw[q1];omega) (fun hm=>(H3.out.1.raf b hm).2.1 rfl);(have e1:i-kg.n.first=j:=by show i-kg.first=j;rw[q2];exact hj);rw[e1]at this;exact this
           clear hj;go_wp2_with (go_at_call 67;refine HC.out.mono ?_;rintro e w4 ⟨rfl,hw4,hs4,ho4⟩;have H4:Hid (WalAt w4 b { kg.n with many:=j } v2∧SOwn 0 w4 (.slice v2.ra j v2.rc) (s2.take j)∧Only (b::ownB v2.ra) w3 w4):=⟨hw4,hs4,ho4⟩;clear hw4 hs4 ho4 HC);go_ret;have hg:truncG g i=(0,{ kg with L:=kg.L.take j }):=by
            unfold truncG;rw[if_neg (by simp[HF.out]),if_neg H123.out.1,if_neg H123.out.2.1,HR.out,if_neg (by simp),HKG.out,HJ.out]
           rw[hg];(have hl:(kg.L.take j).length=j:=by rw[List.length_take];omega);have hp:=LogAt.part (g':={ kg with L:=kg.L.take j }) (v':=v2) (s':=s2.take j) H3.out.1 (H4.out.2.2.wider (fun k hk=>by
            simp only[List.mem_cons]at hk;rcases hk with h|h<;>simp[logF,h])) ((H3.out.1.disk.mono (show M≤N+g.l.length+32 from HM.out)).apart H4.out.2.2 (fun k hk hm=>by
            simp only[List.mem_cons]at hm;rcases hm with rfl|h
            · exact H3.out.1.bf hk
            · exact(H3.out.1.raf k h).1 hk)) (fun k hk => .inl hk) (by
            show WalAt w4 b (⟨kg.first,(kg.L.take j).length,kg.next,kg.area,kg.sector,kg.tl.length,kg.adrift,kg.fault⟩) _;rw[hl];exact H4.out.1) (H3.out.1.pl.only H4.out.2.2 (fun ad n c e k hk hm=>by
            simp only[Value.slice.injEq]at e;rw[←e.1]at hk;simp only[List.mem_cons]at hm;rcases hm with rfl|h
            · exact(H3.out.1.paf k hk).2 rfl
            · exact(H3.out.1.raf k h).2.2 hk)) (by
            show SOwn 0 w4 (.slice v2.ra (kg.L.take j).length v2.rc) _;rw[hl];exact H4.out.2.1) (fun a x xs q1 q2=>⟨a,take_some q1,take_some q2⟩) rfl rfl rfl rfl rfl rfl
           refine⟨rfl,_,fp2,_,hp.1,H2.out.2.1,H3.out.2.1.trans (fp':=logF b v2 fp2) (H4.out.2.2.wider (fun k hk=>by
            simp only[List.mem_cons]at hk;rcases hk with h|h<;>simp[logF,h])) H3.out.2.2.1,H3.out.2.2.1⟩
         · have h0b:(re==0)=false:=by simpa using h0
           have HNE:Hid (¬re=0):=h0;clear h0;go_wp2_with fail;go_ret;have hg:truncG g i=(re,kg):=by
            unfold truncG;rw[if_neg (by simp[HF.out]),if_neg H123.out.1,if_neg H123.out.2.1,HR.out,if_pos HNE.out,HKG.out]
           rw[hg];exact⟨rfl,v2,fp2,s2,H3.out.1.more HM.out,H2.out.2.1,H3.out.2.1,H3.out.2.2.1⟩
 · refine(Truncate_fault b i g.n v w h.wal hf).mono ?_
   rintro e w' ⟨rfl,rfl⟩;have hg:truncG g i=(g.fault,g):=if_pos hf;rw[hg];exact h.stays (Below.refl _ _) (by omega)
end Go.Proofs.YthecngkdmnadoaaGreat

namespace Go.Proofs.YthecngkdmnadoaaGreat
open Go.RowKit
set_option maxRecDepth 100000
def askR(ts:List Nat):Nat×List Nat×Int:=uintR ts 0 4611686018427387904
def AskAt(B:Nat)(w:World)(rb cb:Nat)(xs:List Nat)(e:Int):Prop:=Rd B w rb xs e∧w.cell? ⟨cb,0,none⟩=some (.pointer (some ⟨rb,0,none⟩))∧cb≠rb∧cb<w.heap.size
theorem textF_len{S:List Sec}{a:Int}:∀(f i:Nat),(textF S a f i).length≤63*f
 |0,_=>Nat.le_refl _
 |f+1,i=>by
  rw[textF]
  split
  · simp
  · rename_i v _
    have h1:(saysT v).length≤63:=by unfold saysT saysN;rw[List.length_take];omega
    split
    · omega
    · rw[List.length_append]
      have:=textF_len (S:=S) (a:=a) f (i+1);omega
theorem textF_byte{S:List Sec}{a:Int}(h:∀i v,curOf S a i=some v→∀x∈v,x<256):∀(f i:Nat),∀x∈textF S a f i,x<256
 |0,_,x,hx=>by cases hx
 |f+1,i,x,hx=>by
  rw[textF]at hx
  split at hx
  · cases hx
  · rename_i v hv
    have h1:∀y∈saysT v,y<256:=fun y hy=>h _ _ hv y (List.mem_of_mem_drop (List.mem_of_mem_take hy))
    split at hx
    · exact h1 x hx
    · rcases List.mem_append.1 hx with k|k
      · exact h1 x k
      · exact textF_byte h f (i+1) x k
theorem Rd.lt{B:Nat}{w:World}{rb:Nat}{xs:List Nat}{e:Int}(h:Rd B w rb xs e):rb<w.heap.size:=by
 obtain⟨v,h1,_⟩:=h;exact(Array.getElem?_eq_some_iff.1 h1).1
theorem box_keeps{w w':World}{rb:Nat}{v:Value}{t:TypeId}(hr:rb<w.heap.size)(h:But rb (w.alloc (.cells #[v] t)) w'):w'.cell? ⟨w.heap.size,0,none⟩=some v:=by
 have h1:=h.block w.heap.size (by simp) (by omega);unfold World.cell?;rw[h1,alloc_new];rfl
set_option maxHeartbeats 2000000 in
theorem ask_any(N p:Nat)(d:DS)(fp:List Nat)(n:Nat)(w:World)(h:DiskAt N w p d fp)(hN:N<1099511627776)(hn:n≤1152921504606846976)(hB:∀i v,curOf d.secs ((4*n+1:Nat):Int) i=some v→∀x∈v,x<256):
 Calls Tryz.prog 66 #[.pointer (some ⟨p,0,none⟩),.int .u64 (n:Int)] w fun e w'=>Below w.heap.size w w' ∧
  (((askR (textS d.secs ((4*n+1:Nat):Int))).2.2≠0∧e = .returned (.tuple #[.int .u64 0,.nilFunc,.bool false])) ∨
   ((askR (textS d.secs ((4*n+1:Nat):Int))).2.2=0∧∃rb cb,e = .returned (.tuple #[.int .u64 ((askR (textS d.secs ((4*n+1:Nat):Int))).1:Int),.func (.func 88) #[] #[.pointer (some ⟨cb,0,none⟩)],.bool true])∧w.heap.size≤rb∧w.heap.size≤cb∧AskAt w.heap.size w' rb cb (askR (textS d.secs ((4*n+1:Nat):Int))).2.1 0)):=by
 have hT:∀x∈textS d.secs ((4*n+1:Nat):Int),x<256:=textF_byte hB _ _;have hL:(textS d.secs ((4*n+1:Nat):Int)).length≤140737488355328:=Nat.le_trans (textF_len _ _) (by decide);have e1:(4*(n:Int)+1)=((4*n+1:Nat):Int):=by omega
 obtain⟨A,hA⟩:∃A:Int,(4*(n:Int)+1)=A:=⟨_,rfl⟩;rw[←e1,hA]at hB hT hL;rw[←e1,hA];have HT:Hid (Calls Tryz.prog 85 #[.pointer (some ⟨p,0,none⟩),.int .u64 A] w fun e w'=>∃v,e = .returned v∧Bytes w.heap.size w' v (textS d.secs A)∧Below w.heap.size w w'):=textOf_any N p d fp _ w h hN hB;obtain⟨ts,hts⟩:∃ts,textS d.secs A=ts:=⟨_,rfl⟩;rw[hts]at HT hT hL;rw[hts];have HX:Hid ((∀x∈ts,x<256)∧ts.length≤140737488355328):=⟨hT,hL⟩;obtain⟨k,hk⟩:∃k,(askR ts).1=k:=⟨_,rfl⟩;obtain⟨rs,hrs⟩:∃rs,(askR ts).2.1=rs:=⟨_,rfl⟩;obtain⟨er,her⟩:∃er,(askR ts).2.2=er:=⟨_,rfl⟩;have HU:Hid (∀B rb W,Rd B W rb ts 0→Calls Tryz.prog 86 #[.pointer (some ⟨rb,0,none⟩),.int .u64 4611686018427387904] W fun x w'=>x = .returned (.int .u64 (k:Int))∧Rd B w' rb rs er∧But rb W w'):=by
  intro B rb W hW;have:=Uint_any rb ts 0 4611686018427387904 W hW;rw[←hk,←hrs,←her];exact this
 rw[hk,hrs,her];clear h hB e1 hT hL hk hrs her hts;have hb0:Below w.heap.size w w:=Below.refl _ w;by_cases h0:er=0
 · subst h0
   go_enter Tryz.func66,Tryz.ntmps66
   go_wp2_with (first
    |(go_at_call 38;refine(areaOf_any n _ hn).mono ?_;rintro e w0 ⟨rfl,hw0⟩;subst w0)
    |(go_at_call 85;refine HT.out.mono ?_;rintro e w1 ⟨v,rfl,hb1,B1⟩)
    |(go_at_call 84;refine(codecRead_any _ _ ts _ hb1.row HX.out.1 HX.out.2).mono ?_;rintro e w2 ⟨rb,rfl,hrb,hR2,B2⟩)
    |(go_at_call 86;refine(HU.out _ rb _ (hR2.but ((Below.refl _ w2).alloc (Nat.le_refl _) _))).mono ?_;rintro e w3 ⟨rfl,hR3,B3⟩;have cB:=box_keeps hR2.lt B3)
    |(go_at_call 87;refine(Err_any rb rs 0 _ hR3).mono ?_;rintro e w4 ⟨rfl,hw4⟩;subst w4))
   go_ret3
   have hB3:=((Below.refl w1.heap.size w2).alloc B2.size _).trans (B3.below hrb (by simp;exact Nat.le_succ_of_le B2.size));refine⟨B1.trans ((B2.trans hB3).mono B1.size),.inr ⟨by trivial,rb,w2.heap.size,rfl,Nat.le_trans B1.size hrb,Nat.le_trans B1.size B2.size,hR3.lower B1.size,cB,by have:=hR2.lt;omega,?_⟩⟩;exact Nat.lt_of_lt_of_le (by simp) B3.size
 · have hne:(er==0)=false:=by simpa using h0
   go_enter Tryz.func66,Tryz.ntmps66
   go_wp2_with (first
    |(go_at_call 38;refine(areaOf_any n _ hn).mono ?_;rintro e w0 ⟨rfl,hw0⟩;subst w0)
    |(go_at_call 85;refine HT.out.mono ?_;rintro e w1 ⟨v,rfl,hb1,B1⟩)
    |(go_at_call 84;refine(codecRead_any _ _ ts _ hb1.row HX.out.1 HX.out.2).mono ?_;rintro e w2 ⟨rb,rfl,hrb,hR2,B2⟩)
    |(go_at_call 86;refine(HU.out _ rb _ (hR2.but ((Below.refl _ w2).alloc (Nat.le_refl _) _))).mono ?_;rintro e w3 ⟨rfl,hR3,B3⟩;have cB:=box_keeps hR2.lt B3)
    |(go_at_call 87;refine(Err_any rb rs er _ hR3).mono ?_;rintro e w4 ⟨rfl,hw4⟩;subst w4))
   go_ret3
   have hB3:=((Below.refl w1.heap.size w2).alloc B2.size _).trans (B3.below hrb (by simp;exact Nat.le_succ_of_le B2.size));exact⟨B1.trans ((B2.trans hB3).mono B1.size),.inl ⟨h0,rfl⟩⟩
set_option maxHeartbeats 2000000 in
theorem askNext_any{B:Nat}(w:World)(rb cb:Nat)(xs:List Nat)(e:Int)(h:AskAt B w rb cb xs e):
 Calls Tryz.prog 88 #[.pointer (some ⟨cb,0,none⟩)] w fun r w'=>∃v,r = .returned (.tuple #[v,.bool ((bytesR xs e 512).2.2==0)])∧Bytes w.heap.size w' v (bytesR xs e 512).1∧AskAt B w' rb cb (bytesR xs e 512).2.1 (bytesR xs e 512).2.2∧But rb w w':=by
 obtain⟨hR,hc,hne,hlt⟩:=h;have HB:Hid (Calls Tryz.prog 89 #[.pointer (some ⟨rb,0,none⟩),.int .i64 512] w fun x w'=>∃v,x = .returned v∧Bytes w.heap.size w' v (bytesR xs e 512).1∧Rd B w' rb (bytesR xs e 512).2.1 (bytesR xs e 512).2.2∧But rb w w'):=Bytes_any rb xs e 512 w hR (by decide) (by decide);obtain⟨b,hb⟩:∃b,bytesR xs e 512=b:=⟨_,rfl⟩;obtain⟨b1,b2,b3⟩:=b;rw[hb]at HB ⊢;simp only at HB ⊢;clear hb;go_enter Tryz.func88,Tryz.ntmps88
 go_wp2_with (first
  |(go_at_call 89;refine HB.out.mono ?_;rintro e w1 ⟨v,rfl,hb1,hR1,B1⟩;obtain⟨ao,cap,rfl,_⟩:=hb1.row.shape;have cB:=(show w1.cell? ⟨cb,0,none⟩=some (.pointer (some ⟨rb,0,none⟩))from by unfold World.cell? at hc ⊢;rw[B1.block cb hlt hne];exact hc))
  |(go_at_call 87;refine(Err_any rb b2 b3 _ hR1).mono ?_;rintro e w4 ⟨rfl,hw4⟩;subst w4))
 go_ret2;exact⟨_,rfl,hb1,⟨hR1,cB,hne,Nat.lt_of_lt_of_le hlt B1.size⟩,B1⟩
end Go.Proofs.YthecngkdmnadoaaGreat

namespace Go.Proofs.YthecngkdmnadoaaGreat
open Go.RowKit
set_option maxRecDepth 100000
def recsR:Nat→LG→List Nat→Int×LG
 |0,g,_=>(0,g)
 |f+1,g,xs=>if ¬(bytesR xs 0 512).2.2=0 then (0,g)else if g.first+g.L.length=4611686018427387904 then (52,g)else recsR f { g with L:=g.L++[(bytesR xs 0 512).1] } (bytesR xs 0 512).2.1
theorem recsR_end{f:Nat}{g:LG}{xs:List Nat}(h:¬(bytesR xs 0 512).2.2=0):recsR (f+1) g xs=(0,g):=by rw[recsR,if_pos h]
theorem recsR_full{f:Nat}{g:LG}{xs:List Nat}(h:(bytesR xs 0 512).2.2=0)(h2:g.first+g.L.length=4611686018427387904):recsR (f+1) g xs=(52,g):=by rw[recsR,if_neg (by simp[h]),if_pos h2]
theorem recsR_go{f:Nat}{g:LG}{xs:List Nat}(h:(bytesR xs 0 512).2.2=0)(h2:¬g.first+g.L.length=4611686018427387904):recsR (f+1) g xs=recsR f { g with L:=g.L++[(bytesR xs 0 512).1] } (bytesR xs 0 512).2.1:=by rw[recsR,if_neg (by simp[h]),if_neg h2]
def headR(g:LG)(number ix:Nat):LG:=if g.l.length=0∨ix<g.first then { g with first:=ix,L:=[],l:=g.l++[(number,ix)] } else { g with L:=g.L.take (ix-g.first),l:=g.l++[(number,ix)] }
def takeG(g:LG)(number:Nat):Int×LG:=
 if ¬(askR (textS g.d.secs ((4*number+1:Nat):Int))).2.2=0 then (0,g)
 else if ¬(g.l.length=0∨(askR (textS g.d.secs ((4*number+1:Nat):Int))).1<g.first)∧g.first+g.L.length<(askR (textS g.d.secs ((4*number+1:Nat):Int))).1 then (52,g)
 else recsR ((askR (textS g.d.secs ((4*number+1:Nat):Int))).2.1.length+1) (headR g number (askR (textS g.d.secs ((4*number+1:Nat):Int))).1) (askR (textS g.d.secs ((4*number+1:Nat):Int))).2.1
theorem bytesR_less{xs:List Nat}(hx:∀x∈xs,x<256)(h:(bytesR xs 0 512).2.2=0):(bytesR xs 0 512).2.1.length<xs.length:=by
 unfold bytesR at h ⊢;rw[if_neg (by simp)]at h ⊢;by_cases h1:(front xs (mostN 512)).2.2≠0
 · rw[if_pos h1]at h
   have h':((front xs (mostN 512)).2.2:Int)=0:=h;exact absurd (by omega:(front xs (mostN 512)).2.2=0) h1
 · rw[if_neg h1]at h ⊢
   obtain⟨g1,g2,_⟩:=(front_facts xs (mostN 512) hx).1 (by simpa using h1);by_cases h2:xs.length-(front xs (mostN 512)).2.1<(front xs (mostN 512)).1
   · rw[if_pos h2]at h
     have h':(20:Int)=0:=h;omega
   · rw[if_neg h2]
     simp only[List.length_drop];omega
theorem askR_most{xs:List Nat}(hx:∀x∈xs,x<256):(askR xs).1≤4611686018427387904:=by
 unfold askR uintR;rw[if_neg (by simp)]
 split
 · simp
 · rename_i h
   exact((front_facts xs 4611686018427387904 hx).1 (by simpa using h)).2.2.2.2.1
theorem Rd.bytes{B:Nat}{w:World}{rb:Nat}{xs:List Nat}{e:Int}(h:Rd B w rb xs e):∀x∈xs,x<256:=by
 obtain⟨v,_,_,h3,_⟩:=h;exact h3
theorem askR_rest(xs:List Nat):(askR xs).2.1.length≤xs.length:=by
 unfold askR uintR;rw[if_neg (by simp)]
 split
 · exact Nat.le_refl _
 · simp only[List.length_drop];omega
theorem AskAt.only{B:Nat}{w w':World}{rb cb:Nat}{xs:List Nat}{e:Int}{F:List Nat}(h:AskAt B w rb cb xs e)(ho:Only F w w')(hr:B≤rb)(hc:B≤cb)(hF:∀k∈F,k<B∨(rb<k∧cb<k)):AskAt B w' rb cb xs e:=by
 obtain⟨⟨v,h1,h2,h3,h4,h5⟩,hcell,hne,hlt⟩:=h;have hrl:=(Array.getElem?_eq_some_iff.1 h1).1;refine⟨⟨v,(ho.block rb hrl (fun hm=>by have:=hF rb hm;omega)).trans h1,?_,h3,h4,h5⟩,?_,hne,Nat.lt_of_lt_of_le hlt ho.size⟩
 · obtain⟨ao,cap,e1,e2,e3,e4⟩:=h2
   refine⟨ao,cap,e1,e2,e3,fun h0=>?_⟩;obtain⟨b,off,e5,e6,e7⟩:=e4 h0;refine⟨b,off,e5,e6,fun i hi=>?_⟩;rw[←e7 i hi];have hb:w'.heap[b]?=w.heap[b]?:=ho.block b (by omega) (fun hm=>by
    have h6:=h5 h0 b off _ _ (by rw[e1,e5]);have:=hF b hm;omega)
   simp[World.cell?,hb]
 · rw[←hcell]
   have hb:w'.heap[cb]?=w.heap[cb]?:=ho.block cb hlt (fun hm=>by have:=hF cb hm;omega);simp[World.cell?,hb]
theorem WalAt.fresh{w:World}{b:Nat}{n:WN}{v:WV}(h:WalAt w b n v)(i:Nat):
 WalAt ((w.setCell ⟨b,1,none⟩ (.int .u64 (i:Int))).setCell ⟨b,2,none⟩ (.slice none 0 0)) b { n with first:=i,many:=0 } { v with ra:=none,rc:=0 }:=by
 have h1:=set_cell h 1 (.int .u64 (i:Int));have h2:=set_cell h1 2 (.slice none 0 0);exact h2
theorem Row.rd{N B:Nat}{W w':World}{u:Value}{xs:List Nat}{rb:Nat}{ys:List Nat}{e:Int}(h:Row N W u xs)(hr:Rd B W rb ys e)(hb:But rb W w')(hN:N≤W.heap.size):Row N w' u xs:=by
 obtain⟨ao,cap,e1,e2,e3,e4⟩:=h;obtain⟨v,h1,h2,_⟩:=hr;refine⟨ao,cap,e1,e2,e3,fun h0=>?_⟩;obtain⟨b,off,e5,e6,e7⟩:=e4 h0;have hne:b≠rb:=by
  rintro rfl;have h3:=e7 0 h0;obtain⟨va,vc,rfl,_⟩:=h2.shape;unfold World.cell? at h3;rw[h1]at h3;rcases Nat.lt_or_ge (off+0) 1 with h4|h4
  · have h5:off=0:=by omega
    subst h5;simp at h3
  · rcases Nat.lt_or_ge (off+0) 2 with h4|h4
    · have h5:off=1:=by omega
      subst h5;simp at h3
    · have h6:(#[Value.slice va ys.length vc,Value.int IntKind.i64 e]:Array Value)[off+0]?=none:=Array.getElem?_eq_none (by simpa using h4)
      simp only[h6]at h3;cases h3
 exact⟨b,off,e5,e6,fun i hi=>by rw[←e7 i hi];simp[World.cell?,hb.block b (by omega) hne]⟩
theorem RowX.rd{B:Nat}{W w':World}{F:List Nat}{u:Value}{xs:List Nat}{rb:Nat}{ys:List Nat}{e:Int}(h:RowX F W u xs)(hr:Rd B W rb ys e)(hb:But rb W w'):RowX F w' u xs:=⟨(h.1.rd hr hb (Nat.le_refl _)).mono hb.size,h.2⟩
theorem But.only{rb:Nat}{W w':World}(hb:But rb W w'):Only [rb] W w':=⟨hb.os,hb.tape,hb.output,hb.size,fun k hk hn=>hb.block k hk (fun e=>hn (by simp[e]))⟩
theorem LogAt.rd{N B:Nat}{W w':World}{b:Nat}{g:LG}{v:WV}{fp:List Nat}{s:List Sv}{rb:Nat}{ys:List Nat}{e:Int}(h:LogAt N W b g v fp s)(hr:Rd B W rb ys e)(hb:But rb W w')(hrb:rb∉logF b v fp):LogAt N w' b g v fp s:=by
 have ho:=hb.only;have hm:∀k,k∈logF b v fp→k≠rb:=fun k hk e=>hrb (e▸hk)
 refine⟨h.disk.apart ho (fun k hk hk2=>hm k (by simp[logF,hk]) (List.mem_singleton.1 hk2)),(hb.block b h.wal.lt (hm b (by simp[logF]))).trans h.wal,h.pl.only ho (fun ad n c e k hk hk2=>?_),h.recs.only ho (fun k hk hk2=>hm k (by simp[logF,hk]) (List.mem_singleton.1 hk2)),fun i x xs q1 q2=>(h.rows i x xs q1 q2).rd hr hb,h.tail.rd hr hb,h.bf,h.paf,h.raf⟩;simp only[Value.slice.injEq]at e;rw[←e.1]at hk;exact hm k (by simp[logF,hk]) (List.mem_singleton.1 hk2)
def Asked(B rb cb:Nat)(F:List Nat):Prop:=B≤rb∧B≤cb∧∀k∈F,k<B∨(rb<k∧cb<k)
theorem Asked.out{B rb cb:Nat}{F:List Nat}(h:Asked B rb cb F):rb∉F:=fun hm=>by have:=h.2.2 rb hm;have:=h.1;omega
theorem next_log(N B b rb cb:Nat)(g:LG)(v:WV)(fp:List Nat)(s:List Sv)(xs:List Nat)(W:World)(h:LogAt N W b g v fp s)(hk:AskAt B W rb cb xs 0)(ha:Asked B rb cb (logF b v fp)):
 Calls Tryz.prog 88 #[.pointer (some ⟨cb,0,none⟩)] W fun r w'=>∃sv:Sv,r = .returned (.tuple #[encS sv,.bool ((bytesR xs 0 512).2.2==0)])∧LogAt N w' b g v fp s∧AskAt B w' rb cb (bytesR xs 0 512).2.1 (bytesR xs 0 512).2.2∧RowX (logF b v fp) w' (encS sv) (bytesR xs 0 512).1∧Only [rb] W w':=by
 refine(askNext_any W rb cb xs 0 hk).mono ?_;rintro r w' ⟨u,rfl,hu,hk2,hb⟩;obtain⟨ua,uc,rfl,_⟩:=hu.row.shape;exact⟨(ua,_,uc),rfl,h.rd hk.1 hb ha.out,hk2,hu.rowX h.lt,hb.only⟩
theorem LogAt.fresh{N:Nat}{w:World}{b:Nat}{g:LG}{v:WV}{fp:List Nat}{s:List Sv}(h:LogAt N w b g v fp s)(ix:Nat):
 LogAt N ((w.setCell ⟨b,1,none⟩ (.int .u64 (ix:Int))).setCell ⟨b,2,none⟩ (.slice none 0 0)) b { g with first:=ix,L:=[] } { v with ra:=none,rc:=0 } fp []∧Only [b] w ((w.setCell ⟨b,1,none⟩ (.int .u64 (ix:Int))).setCell ⟨b,2,none⟩ (.slice none 0 0)):=by
 have ho:Only [b] w ((w.setCell ⟨b,1,none⟩ (.int .u64 (ix:Int))).setCell ⟨b,2,none⟩ (.slice none 0 0)):=((Only.refl [b] w).setCell (by simp) _ _).setCell (by simp) _ _;have hoF:Only (logF b v fp) w _:=ho.wider (fun k hk=>by simp[logF,List.mem_singleton.1 hk]);refine⟨⟨h.disk.apart ho (fun k hk hm=>h.bf (List.mem_singleton.1 hm▸hk)),h.wal.fresh ix,h.pl.only ho (fun ad n c e k hk hk2=>?_),SOwn.nil 0 _,fun i x xs q1=>by simp at q1,h.tail.step hoF (fun k hk => .inl ?_),h.bf,h.paf,fun k hk=>by simp[ownB]at hk⟩,ho⟩
 · simp only[Value.slice.injEq]at e
   rw[←e.1]at hk;exact(h.paf k hk).2 (List.mem_singleton.1 hk2)
 · simp only[logF,ownB,List.mem_cons,List.mem_append]at hk ⊢
   rcases hk with h1|h1|h1|h1
   · exact .inl h1
   · simp at h1
   · exact .inr (.inr (.inl h1))
   · exact .inr (.inr (.inr h1))
theorem LogAt.placed{N:Nat}{W Wa w9:World}{b:Nat}{g:LG}{v:WV}{fp:List Nat}{s:List Sv}{x:Pl}{a9:Option Addr}{c9:Nat}(h:LogAt N W b g v fp s)(hb:Below W.heap.size W Wa)(hq:QOwn 0 w9 (.slice a9 (g.l.length+1) c9) (g.l++[x]))(ho:Only (ownB v.pa) Wa w9)(ha:∀k∈ownB a9,k∈ownB v.pa∨Wa.heap.size≤k):
 LogAt N (w9.setCell ⟨b,3,none⟩ (.slice a9 (g.l.length+1) c9)) b { g with l:=g.l++[x] } { v with pa:=a9,pn:=g.l.length+1,pc:=c9 } fp s∧Only (logF b v fp) W (w9.setCell ⟨b,3,none⟩ (.slice a9 (g.l.length+1) c9))∧(∀k∈logF b { v with pa:=a9,pn:=g.l.length+1,pc:=c9 } fp,k∈logF b v fp∨W.heap.size≤k)∧w9.cell? ⟨b,3,none⟩=some (.slice v.pa v.pn v.pc)∧w9.frozen? ⟨b,3,none⟩=false:=by
 have h6:=h.below hb;have hw9:WalAt w9 b g.n v:=(ho.block b h6.wal.lt (fun hm=>(h6.paf b hm).2 rfl)).trans h6.wal;have hob:Only [b] w9 (w9.setCell ⟨b,3,none⟩ (.slice a9 (g.l.length+1) c9)):=(Only.refl [b] w9).setCell (by simp) _ _;have h12:Only (b::ownB v.pa) Wa (w9.setCell ⟨b,3,none⟩ (.slice a9 (g.l.length+1) c9)):=(ho.wider (fun k hk=>by simp[hk])).then hob (fun k hk=>by simp[List.mem_singleton.1 hk]);have hm:=begin_made (M':=N) (g':={ g with l:=g.l++[x] }) (ta:=v.ta) (tc:=v.tc) h (Only.of_below hb) (fun k hk => .inl hk) h6.disk h6.recs h6.tail h6.wal.lt h6.bf h6.paf h6.raf h12 (hw9.place a9 (g.l.length+1) c9) (hq.only hob (fun ad n c e k hk hk2=>by
  simp only[Value.slice.injEq]at e;rw[←e.1]at hk;rw[List.mem_singleton.1 hk2]at hk;rcases ha b hk with h1|h1
  · exact(h6.paf b h1).2 rfl
  · have:=h6.wal.lt;omega)) ha rfl (Nat.le_refl _)
 exact⟨hm.1,hm.2.1,hm.2.2,hw9.cells.2.2.2.1,hw9.cells.2.2.2.2.2.2.2.2.2.2 3⟩
theorem cut_log(N b i:Nat)(g:LG)(v:WV)(fp:List Nat)(s:List Sv)(W:World)(h:LogAt N W b g v fp s)(hi:g.first≤i)(hi2:i≤g.first+g.L.length)(hn:g.L.length<1099511627776):
 Calls Tryz.prog 67 #[.pointer (some ⟨b,0,none⟩),.int .u64 (i:Int)] W fun e w'=>e = .returned (.tuple #[])∧LogAt N w' b { g with L:=g.L.take (i-g.first) } v fp (s.take (i-g.first))∧Only (b::ownB v.ra) W w':=by
 refine(cut_any 0 b i g.n v s W h.wal h.recs hi hi2 hn (fun hm=>(h.raf b hm).2.1 rfl)).mono ?_;rintro e w' ⟨rfl,hw,hs,ho⟩;have hl:(g.L.take (i-g.first)).length=i-g.first:=by rw[List.length_take];omega
 have hoF:Only (logF b v fp) W w':=ho.wider (fun k hk=>by
  simp only[List.mem_cons]at hk;rcases hk with h|h<;>simp[logF,h])
 have hp:=LogAt.part (g':={ g with L:=g.L.take (i-g.first) }) (v':=v) (s':=s.take (i-g.first)) h hoF (h.disk.apart ho (fun k hk hm=>by
  simp only[List.mem_cons]at hm;rcases hm with rfl|h1
  · exact h.bf hk
  · exact(h.raf k h1).1 hk)) (fun k hk => .inl hk) (by
  show WalAt w' b (⟨g.first,(g.L.take (i-g.first)).length,g.next,g.area,g.sector,g.tl.length,g.adrift,g.fault⟩) _;rw[hl];exact hw) (h.pl.only ho (fun ad n c e k hk hm=>by
  simp only[Value.slice.injEq]at e;rw[←e.1]at hk;simp only[List.mem_cons]at hm;rcases hm with rfl|h1
  · exact(h.paf k hk).2 rfl
  · exact(h.raf k h1).2.2 hk)) (by
  show SOwn 0 w' (.slice v.ra (g.L.take (i-g.first)).length v.rc) _;rw[hl];exact hs) (fun a x xs q1 q2=>⟨a,take_some q1,take_some q2⟩) rfl rfl rfl rfl rfl rfl
 exact⟨rfl,hp.1,ho⟩
theorem logF_none(b:Nat)(v:WV)(fp:List Nat):∀k∈logF b { v with ra:=none,rc:=0 } fp,k∈logF b v fp:=fun k hk=>by
 simp only[logF,ownB,List.mem_cons,List.mem_append]at hk ⊢;rcases hk with h1|h1|h1|h1
 · exact .inl h1
 · simp at h1
 · exact .inr (.inr (.inl h1))
 · exact .inr (.inr (.inr h1))
theorem logF_ra(b:Nat)(v:WV)(fp:List Nat):∀k∈b::ownB v.ra,k∈logF b v fp:=fun k hk=>by
 simp only[List.mem_cons]at hk;rcases hk with h|h<;>simp[logF,h]
theorem new_cellN(w:World)(k:Nat)(v:Value)(t:TypeId):((w.drewN k).alloc (.cells #[v] t)).cell? ⟨w.heap.size,0,none⟩=some v:=by
 have h2:((w.drewN k).alloc (.cells #[v] t)).heap[w.heap.size]?=some (.cells #[v] t):=alloc_newQ (w.drewN k) (.cells #[v] t);simp only[World.cell?,h2];rfl
theorem WalAt.record{w:World}{b:Nat}{g:LG}{v:WV}(h:WalAt w b g.n v)(x:List Nat)(a:Option Addr)(c:Nat):WalAt (w.setCell ⟨b,2,none⟩ (.slice a (g.L.length+1) c)) b ({ g with L:=g.L++[x] }:LG).n { v with ra:=a,rc:=c }:=by
 have h1:=set_cell h 2 (.slice a (g.L.length+1) c);have e1:({ g with L:=g.L++[x] }:LG).n={ g.n with many:=g.L.length+1 }:=by simp[LG.n]
 rw[e1];exact h1
structure Ready(N b rb cb:Nat)(w w10:World)(v v2:WV)(fp:List Nat)(g2:LG)(s2:List Sv)(xs:List Nat)(e:Int):Prop where
 log:LogAt N w10 b g2 v2 fp s2
 only:Only (logF b v fp) w w10
 sub:∀k∈logF b v2 fp,k∈logF b v fp∨w.heap.size≤k
 ask:AskAt w.heap.size w10 rb cb xs e
 asked:Asked w.heap.size rb cb (logF b v2 fp)
 p:v2.p=v.p
theorem AskAt.cblt{B:Nat}{W:World}{rb cb:Nat}{xs:List Nat}{e:Int}(h:AskAt B W rb cb xs e):rb<W.heap.size∧cb<W.heap.size:=⟨h.1.lt,h.2.2.2⟩
theorem take_ready{N b rb cb:Nat}{w W w10:World}{v v1 v2:WV}{fp:List Nat}{g g2:LG}{s s2:List Sv}{xs:List Nat}(hL:LogAt N w b g v fp s)(hv:∀k∈logF b v1 fp,k∈logF b v fp)(ho:Only (logF b v fp) w W)(ha:AskAt w.heap.size W rb cb xs 0)(hr:w.heap.size≤rb)(hc:w.heap.size≤cb)
 (h10:LogAt N w10 b g2 v2 fp s2) (ho10:Only (logF b v1 fp) W w10) (hs:∀k∈logF b v2 fp,k∈logF b v1 fp∨W.heap.size≤k) (ep:v2.p=v.p):Ready N b rb cb w w10 v v2 fp g2 s2 xs 0:=by
 have hlt:=hL.lt;have hcl:=ha.cblt;refine⟨h10,ho.then ho10 hv,fun k hk=>?_,ha.only ho10 hr hc (fun k hk => .inl (hlt k (hv k hk))),⟨hr,hc,fun k hk=>?_⟩,ep⟩
 · rcases hs k hk with h|h
   · exact .inl (hv k h)
   · exact .inr (Nat.le_trans ho.size h)
 · rcases hs k hk with h|h
   · exact .inl (hlt k (hv k h))
   · exact .inr (by omega)
theorem Ready.next{N b rb cb:Nat}{w w10:World}{v v2:WV}{fp:List Nat}{g2:LG}{s2:List Sv}{xs:List Nat}(h:Ready N b rb cb w w10 v v2 fp g2 s2 xs 0):
 Calls Tryz.prog 88 #[.pointer (some ⟨cb,0,none⟩)] w10 fun r w'=>∃sv:Sv,r = .returned (.tuple #[encS sv,.bool ((bytesR xs 0 512).2.2==0)])∧Ready N b rb cb w w' v v2 fp g2 s2 (bytesR xs 0 512).2.1 (bytesR xs 0 512).2.2∧RowX (logF b v2 fp) w' (encS sv) (bytesR xs 0 512).1:=by
 refine(next_log N w.heap.size b rb cb g2 v2 fp s2 xs w10 h.log h.ask h.asked).mono ?_;rintro r w' ⟨sv,rfl,h1,h2,h3,h4⟩;exact⟨sv,rfl,⟨h1,h.only.trans h4 (fun k hk => .inr (by rw[List.mem_singleton.1 hk];exact h.asked.1)),h.sub,h2,h.asked,h.p⟩,h3⟩
theorem Ready.app{N b rb cb:Nat}{w w10 w6 w12:World}{v v2:WV}{fp:List Nat}{g2:LG}{s2:List Sv}{xs x:List Nat}{sv:Sv}{a9:Option Addr}{c9:Nat}(h:Ready N b rb cb w w10 v v2 fp g2 s2 xs 0)(hb6:Below w10.heap.size w10 w6)(hsv:RowX (logF b v2 fp) w6 (encS sv) x)
 (h12:Only (b::ownB v2.ra) w6 w12) (hw:WalAt w12 b ({ g2 with L:=g2.L++[x] }:LG).n { v2 with ra:=a9,rc:=c9 }) (hso:SOwn 0 w12 (.slice a9 (g2.L.length+1) c9) (s2++[sv])) (ha:∀k∈ownB a9,k∈ownB v2.ra∨w6.heap.size≤k):
 Ready N b rb cb w w12 v { v2 with ra:=a9,rc:=c9 } fp { g2 with L:=g2.L++[x] } (s2++[sv]) xs 0:=by
 have hm:=app_made h.log hb6 hsv h12 hw hso ha;have hcl:=h.ask.cblt;have ho:Only (logF b v2 fp) w10 w12:=hm.2.1;refine⟨hm.1,h.only.trans ho (fun k hk=>h.sub k hk),fun k hk=>?_,h.ask.only ho h.asked.1 h.asked.2.1 h.asked.2.2,⟨h.asked.1,h.asked.2.1,fun k hk=>?_⟩,h.p⟩
 · rcases hm.2.2 k hk with h1|h1
   · exact h.sub k h1
   · exact .inr (Nat.le_trans h.only.size h1)
 · rcases hm.2.2 k hk with h1|h1
   · exact h.asked.2.2 k h1
   · exact .inr (by omega)
end Go.Proofs.YthecngkdmnadoaaGreat
