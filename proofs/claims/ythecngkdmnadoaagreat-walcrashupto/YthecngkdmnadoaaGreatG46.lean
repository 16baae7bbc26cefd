/- Texts that were written apart, joined. -/
import Derived.Test.YthecngkdmnadoaaGreatG45
import Derived.Handy
namespace Go.Proofs.YthecngkdmnadoaaGreat
open Go.RowKit Go.Sort
set_option maxRecDepth 100000
namespace SrtI
theorem bnot_t{b:Bool}(h:(!b)=true):b=false:=by cases b;rfl;cases h
theorem bnot_f{b:Bool}(h:(!b)=false):b=true:=by cases b;cases h;rfl
theorem bnot_n{b:Bool}(h:¬(!b)=true):b=true:=by cases b;exact absurd rfl h;rfl
theorem rev_go{i j:Nat}{d:Array Int}(h:i<j):reverseLoop i j d=reverseLoop (i+1) (j-1) (swp d i j):=by rw[reverseLoop,if_pos h]
theorem rev_stop{i j:Nat}{d:Array Int}(h:¬i<j):reverseLoop i j d=d:=by rw[reverseLoop,if_neg h]
set_option maxHeartbeats 4000000 in
theorem reverseRange_any(blk off cap a b:Nat)(d:Array Int)(w:World)(hH:Holds enc w blk off d)(hab:a<b)(hb:b≤d.size)(hsz:d.size<4611686018427387904):
 Calls Tryz.prog 135 #[.slice (some ⟨blk,off,none⟩) d.size cap,.int .i64 a,.int .i64 b] w fun e w'=>
  e = .returned (.tuple #[])∧At blk off w w' d.size (reverseRange d a b):=by
 have HA:Hid (At blk off w w d.size d):=⟨hH,rfl,RStep.refl _ _ _ _⟩;have HE:Hid (reverseRange d a b=reverseLoop a (b-1) d):=rfl;generalize hn:d.size=n at *;clear hH hn;go_enter Tryz.func135,Tryz.ntmps135;go_wp2
 go_loopw [6,7] (fun vi vj wr=>∃(i j:Nat) (dk:Array Int),vi = .int .i64 i∧vj = .int .i64 j∧i≤b∧j<b∧At blk off w wr n dk∧reverseLoop i j dk=reverseLoop a (b-1) d) (fun vi _ _=>b-(intOf vi).toNat)
 case atStart=>exact⟨a,b-1,d,rfl,by congr 1;omega,by omega,by omega,HA.out,rfl⟩
 case round=>
  obtain⟨i,j,dk,rfl,rfl,hi,hj,hAt,hO⟩:=hrel;obtain⟨G,hG,hcw,hfw⟩:=hAt.fam;have HG:Hid (∀t,G t=dk[t]!):=hG;have HO:Hid (reverseLoop i j dk=reverseLoop a (b-1) d):=hO;have HK:Hid (At blk off w wr n dk):=hAt;clear hO hAt hG;by_cases hij:i<j
  · go_wp2
    go_region
    all_goals go_wp2
    go_roundw
    case rel=>
     refine⟨i+1,j-1,swp dk i j,by go_num,by congr 1;omega,by omega,by omega,?_,by rw[←HO.out,rev_go hij]⟩;rw[HG.out,HG.out];exact(HK.out.drew).swap (by omega) (by omega)
    case measure=>simp[intOf];omega
  · go_wp2
    go_end0
    exact⟨rfl,by rw[HE.out,←HO.out,rev_stop hij];exact HK.out⟩
theorem sd_stop{hi f r:Nat}{d:Array Int}(h:2*r+1≥hi):siftDown ltInt hi f r d=d:=by rw[siftDown,dif_pos h]
theorem sd_right{hi f r:Nat}{d:Array Int}(h:2*r+2<hi)(hl:ltInt d[f+(2*r+1)]! d[f+(2*r+1)+1]! = true):
 siftDown ltInt hi f r d=if !ltInt d[f+r]! d[f+(2*r+2)]! then d else siftDown ltInt hi f (2*r+2) (swp d (f+r) (f+(2*r+2))):=by
 rw[siftDown,dif_neg (by omega),if_pos (by simp[hl];omega)]
 split
 · rfl
 · first|rfl|rw[dif_pos h]
theorem sd_left{hi f r:Nat}{d:Array Int}(h:2*r+1<hi)(hl:¬(2*r+2<hi∧ltInt d[f+(2*r+1)]! d[f+(2*r+1)+1]! = true)):
 siftDown ltInt hi f r d=if !ltInt d[f+r]! d[f+(2*r+1)]! then d else siftDown ltInt hi f (2*r+1) (swp d (f+r) (f+(2*r+1))):=by
 rw[siftDown,dif_neg (by omega),if_neg (by simp only[Bool.and_eq_true,decide_eq_true_eq];exact fun x=>hl x)]
set_option maxHeartbeats 8000000 in
theorem siftDown_any(blk off cap lo hi first:Nat)(d:Array Int)(w:World)(hH:Holds enc w blk off d)(hb:first+hi≤d.size)(hlo:lo≤d.size)(hsz:d.size<2305843009213693952):
 Calls Tryz.prog 141 #[.slice (some ⟨blk,off,none⟩) d.size cap,.int .i64 lo,.int .i64 hi,.int .i64 first] w fun e w'=>
  e = .returned (.tuple #[])∧At blk off w w' d.size (siftDown ltInt hi first lo d):=by
 have HA:Hid (At blk off w w d.size d):=⟨hH,rfl,RStep.refl _ _ _ _⟩;generalize hn:d.size=n at *;clear hH hn;go_enter Tryz.func141,Tryz.ntmps141;go_wp2
 go_loopw [8] (fun vr wr=>∃(r:Nat) (dk:Array Int),vr = .int .i64 r∧r≤n∧At blk off w wr n dk∧siftDown ltInt hi first r dk=siftDown ltInt hi first lo d) (fun vr _=>n+1-(intOf vr).toNat)
 case atStart=>exact⟨lo,d,rfl,hlo,HA.out,rfl⟩
 case round=>
  obtain⟨r,dk,rfl,hr,hAt,hO⟩:=hrel;obtain⟨G,hG,hcw,hfw⟩:=hAt.fam;have HG:Hid (∀t,G t=dk[t]!):=hG;have HO:Hid (siftDown ltInt hi first r dk=siftDown ltInt hi first lo d):=hO;have HK:Hid (At blk off w wr n dk):=hAt;clear hO hAt hG;by_cases hc:2*r+1<hi
  · obtain⟨c,hcd⟩:∃c:Nat,2*r+1=c:=⟨_,rfl⟩
    have HC:Hid (2*r+1=c):=hcd;(have hci:(2:Int)*(r:Int)+1=(c:Int):=by omega);(have hch:c<hi:=by omega);(have hrc:r<c:=by omega);(have hrh:r<hi:=by omega);(have hfr:(first:Int)+(r:Int)<(n:Int):=by omega);clear hcd;by_cases hc2:c+1<hi
    · have hc2':(c:Int)+1<(hi:Int):=by omega
      go_wp2;clear hci;go_quiet (first|(go_at_call 137;refine Calls.quiet_of_same (Less_any _ _ _)));go_wp2
      · have hl:ltInt (G (first+c)) (G (first+c+1))=true:=by assumption
        obtain⟨e,hed⟩:∃e:Nat,c+1=e:=⟨_,rfl⟩;(have hei:(c:Int)+1=(e:Int):=by omega);(have heh:e<hi:=by omega);(have hre:r<e:=by omega);have HSD:Hid (siftDown ltInt hi first r dk=if !ltInt dk[first+r]! dk[first+e]! then dk else siftDown ltInt hi first e (swp dk (first+r) (first+e))):=by
         have hh:=HC.out;(have e1:e=2*r+2:=by omega);subst hh;show _=_;rw[e1];exact sd_right (by omega) (by rw[←HG.out,←HG.out];exact hl)
        clear hl hed;rw[hei];clear hei;obtain⟨wq,hwq⟩:∃wq:World,wq=wr.drewN nq:=⟨_,rfl⟩;(have hcq:∀t,t<n→wq.cell? ⟨blk,off+t,none⟩=some (.int .i64 (G t)):=by rw[hwq];exact hcw);(have hfq:∀t,t<n→wq.frozen? ⟨blk,off+t,none⟩=false:=by rw[hwq];exact hfw);(have HQ:Hid (At blk off w wq n dk):=by subst hwq;exact HK.out.drewN _);rw[←hwq];clear hwq hcw hfw HK;have hw1:IntKind.i64.wrap ((first:Int)+(r:Int))=(first:Int)+(r:Int):=wrapId (by omega) (by omega);have hw2:IntKind.i64.wrap ((first:Int)+(e:Int))=(first:Int)+(e:Int):=wrapId (by omega) (by omega);(have hx1:(0:Int)≤(first:Int)+(r:Int):=by omega);(have hx2:(first:Int)+(e:Int)<(n:Int):=by omega);(have hx3:(0:Int)≤(first:Int)+(e:Int):=by omega);(have ht1:((first:Int)+(r:Int)).toNat=first+r:=by omega);(have ht2:((first:Int)+(e:Int)).toNat=first+e:=by omega);go_quiet (first|(go_at_call 137;refine Calls.quiet_of_same (Less_any _ _ _)));go_wp2
        · have hl2:ltInt (G (first+r)) (G (first+e))=false:=by first|assumption|(refine bnot_t ?_;assumption)
          go_returns;exact⟨rfl,by rw[←HO.out,HSD.out,←HG.out,←HG.out,hl2,if_pos (by simp)];exact HQ.out.drewN _⟩
        · have hl2:ltInt (G (first+r)) (G (first+e))=true:=by first|assumption|(refine bnot_f ?_;assumption)|(refine bnot_n ?_;assumption)
          go_region
          all_goals go_wp2
          go_roundw
          case rel=>
           refine⟨e,swp dk (first+r) (first+e),rfl,by omega,?_,by rw[←HO.out,HSD.out,←HG.out,←HG.out,hl2,if_neg (by simp)]⟩;rw[HG.out,HG.out];have:=((HQ.out.drewN nq).drew).swap (i:=first+r) (j:=first+e) (by omega) (by omega);simpa[Nat.add_assoc]using this
          case measure=>simp[intOf];omega
      · have hl:ltInt (G (first+c)) (G (first+c+1))=false:=by assumption
        obtain⟨e,hed⟩:∃e:Nat,c=e:=⟨_,rfl⟩;subst hed;have heh:c<hi:=hch;have hre:r<c:=hrc;have HSD:Hid (siftDown ltInt hi first r dk=if !ltInt dk[first+r]! dk[first+c]! then dk else siftDown ltInt hi first c (swp dk (first+r) (first+c))):=by
         have hh:=HC.out;subst hh;exact sd_left (by omega) (fun hx=>by have:=hx.2;rw[←HG.out,←HG.out,hl]at this;cases this)
        clear hl;obtain⟨wq,hwq⟩:∃wq:World,wq=wr.drewN nq:=⟨_,rfl⟩;(have hcq:∀t,t<n→wq.cell? ⟨blk,off+t,none⟩=some (.int .i64 (G t)):=by rw[hwq];exact hcw);(have hfq:∀t,t<n→wq.frozen? ⟨blk,off+t,none⟩=false:=by rw[hwq];exact hfw);(have HQ:Hid (At blk off w wq n dk):=by subst hwq;exact HK.out.drewN _);rw[←hwq];clear hwq hcw hfw HK;have hw1:IntKind.i64.wrap ((first:Int)+(r:Int))=(first:Int)+(r:Int):=wrapId (by omega) (by omega);have hw2:IntKind.i64.wrap ((first:Int)+(c:Int))=(first:Int)+(c:Int):=wrapId (by omega) (by omega);(have hx1:(0:Int)≤(first:Int)+(r:Int):=by omega);(have hx2:(first:Int)+(c:Int)<(n:Int):=by omega);(have hx3:(0:Int)≤(first:Int)+(c:Int):=by omega);(have ht1:((first:Int)+(r:Int)).toNat=first+r:=by omega);(have ht2:((first:Int)+(c:Int)).toNat=first+c:=by omega);go_quiet (first|(go_at_call 137;refine Calls.quiet_of_same (Less_any _ _ _)));go_wp2
        · have hl2:ltInt (G (first+r)) (G (first+c))=false:=by first|assumption|(refine bnot_t ?_;assumption)
          go_returns;exact⟨rfl,by rw[←HO.out,HSD.out,←HG.out,←HG.out,hl2,if_pos (by simp)];exact HQ.out.drewN _⟩
        · have hl2:ltInt (G (first+r)) (G (first+c))=true:=by first|assumption|(refine bnot_f ?_;assumption)|(refine bnot_n ?_;assumption)
          go_region
          all_goals go_wp2
          go_roundw
          case rel=>
           refine⟨c,swp dk (first+r) (first+c),rfl,by omega,?_,by rw[←HO.out,HSD.out,←HG.out,←HG.out,hl2,if_neg (by simp)]⟩;rw[HG.out,HG.out];have:=((HQ.out.drewN nq).drew).swap (i:=first+r) (j:=first+c) (by omega) (by omega);simpa[Nat.add_assoc]using this
          case measure=>simp[intOf];omega
    · have hc2':decide ((c:Int)+1<(hi:Int))=false:=by simp;omega
      go_wp2;clear hci;go_quiet (first|(go_at_call 137;refine Calls.quiet_of_same (Less_any _ _ _)));go_wp2;have heh:c<hi:=hch;have hre:r<c:=hrc;have HSD:Hid (siftDown ltInt hi first r dk=if !ltInt dk[first+r]! dk[first+c]! then dk else siftDown ltInt hi first c (swp dk (first+r) (first+c))):=by
       have hh:=HC.out;subst hh;exact sd_left (by omega) (fun hx=>by have:=hx.1;omega)
      obtain⟨wq,hwq⟩:∃wq:World,wq=wr.drewN nq:=⟨_,rfl⟩;(have hcq:∀t,t<n→wq.cell? ⟨blk,off+t,none⟩=some (.int .i64 (G t)):=by rw[hwq];exact hcw);(have hfq:∀t,t<n→wq.frozen? ⟨blk,off+t,none⟩=false:=by rw[hwq];exact hfw);(have HQ:Hid (At blk off w wq n dk):=by subst hwq;exact HK.out.drewN _);rw[←hwq];clear hwq hcw hfw HK;have hw1:IntKind.i64.wrap ((first:Int)+(r:Int))=(first:Int)+(r:Int):=wrapId (by omega) (by omega);have hw2:IntKind.i64.wrap ((first:Int)+(c:Int))=(first:Int)+(c:Int):=wrapId (by omega) (by omega);(have hx1:(0:Int)≤(first:Int)+(r:Int):=by omega);(have hx2:(first:Int)+(c:Int)<(n:Int):=by omega);(have hx3:(0:Int)≤(first:Int)+(c:Int):=by omega);(have ht1:((first:Int)+(r:Int)).toNat=first+r:=by omega);(have ht2:((first:Int)+(c:Int)).toNat=first+c:=by omega);go_quiet (first|(go_at_call 137;refine Calls.quiet_of_same (Less_any _ _ _)));go_wp2
      · have hl2:ltInt (G (first+r)) (G (first+c))=false:=by first|assumption|(refine bnot_t ?_;assumption)
        go_returns;exact⟨rfl,by rw[←HO.out,HSD.out,←HG.out,←HG.out,hl2,if_pos (by simp)];exact HQ.out.drewN _⟩
      · have hl2:ltInt (G (first+r)) (G (first+c))=true:=by first|assumption|(refine bnot_f ?_;assumption)|(refine bnot_n ?_;assumption)
        go_region
        all_goals go_wp2
        go_roundw
        case rel=>
         refine⟨c,swp dk (first+r) (first+c),rfl,by omega,?_,by rw[←HO.out,HSD.out,←HG.out,←HG.out,hl2,if_neg (by simp)]⟩;rw[HG.out,HG.out];have:=((HQ.out.drewN nq).drew).swap (i:=first+r) (j:=first+c) (by omega) (by omega);simpa[Nat.add_assoc]using this
        case measure=>simp[intOf];omega
  · go_wp2
    go_end0
    exact⟨rfl,by rw[←HO.out,sd_stop (by omega)];exact HK.out⟩
end SrtI
end Go.Proofs.YthecngkdmnadoaaGreat

namespace Go.Proofs.YthecngkdmnadoaaGreat
open Go.RowKit Go.Sort
set_option maxRecDepth 100000
namespace SrtI
theorem siftDown_at{blk off cap lo hi first n:Nat}{d:Array Int}{w0 w:World}(hA:At blk off w0 w n d)(hb:first+hi≤n)(hlo:lo≤n)(hsz:n<2305843009213693952):
 Calls Tryz.prog 141 #[.slice (some ⟨blk,off,none⟩) n cap,.int .i64 lo,.int .i64 hi,.int .i64 first] w fun e w'=>
  e = .returned (.tuple #[])∧At blk off w0 w' n (siftDown ltInt hi first lo d):=by
 obtain⟨h1,rfl,h3⟩:=hA;exact(siftDown_any blk off cap lo hi first d w h1 hb hlo hsz).mono fun e w' h=>⟨h.1,(At.mk h1 rfl h3).trans h.2⟩
set_option maxHeartbeats 8000000 in
theorem heapSort_any(blk off cap a b n:Nat)(d:Array Int)(w0 w:World)(hA:At blk off w0 w n d)(hab:a<b)(hb:b≤n)(hsz:n<2305843009213693952):
 Calls Tryz.prog 132 #[.slice (some ⟨blk,off,none⟩) n cap,.int .i64 a,.int .i64 b] w fun e w'=>
  e = .returned (.tuple #[])∧At blk off w0 w' n (heapSort ltInt d a b):=by
 have HA:Hid (At blk off w0 w n d):=hA;obtain⟨h,hh⟩:∃h,b-a=h:=⟨_,rfl⟩;obtain⟨m,hm⟩:∃m,(h-1)/2=m:=⟨_,rfl⟩;have HE:Hid (heapSort ltInt d a b=heapPop ltInt a h (heapBuild ltInt h a (m+1) d)):=by
  show _=_;rw[heapSort,hh,hm]
 have hh0:0<h:=by omega
 have hah:a+h≤n:=by omega
 have hmh:m<h:=by omega
 have hbi:(b:Int)-(a:Int)=(h:Int):=by omega
 have hmi:((h:Int)-1).tdiv 2=(m:Int):=by rw[Int.tdiv_eq_ediv_of_nonneg (by omega)];omega
 clear hA hh hm;go_enter Tryz.func132,Tryz.ntmps132;go_wp2
 go_loopw [9] (fun vi wr=>∃(k:Nat) (dk:Array Int),vi = .int .i64 ((k:Int)-1)∧k≤m+1∧At blk off w0 wr n dk∧heapBuild ltInt h a k dk=heapBuild ltInt h a (m+1) d) (fun vi _=>(intOf vi+1).toNat)
 case atStart=>exact⟨m+1,d,by congr 1;omega,Nat.le_refl _,HA.out,rfl⟩
 case round=>
  obtain⟨k,dk,rfl,hk,hAt,hO⟩:=hrel;have HO:Hid (heapBuild ltInt h a k dk=heapBuild ltInt h a (m+1) d):=hO;have HK:Hid (At blk off w0 wr n dk):=hAt;clear hO hAt;rcases k with _|k
  · go_wp2
    have HB:Hid (dk=heapBuild ltInt h a (m+1) d):=HO.out
    go_loopw [10] (fun vi wr2=>∃(k:Nat) (dj:Array Int),vi = .int .i64 ((k:Int)-1)∧k≤h∧At blk off w0 wr2 n dj∧heapPop ltInt a k dj=heapPop ltInt a h dk) (fun vi _=>(intOf vi+1).toNat)
    case atStart=>exact⟨h,dk,rfl,Nat.le_refl _,HK.out,rfl⟩
    case round=>
     obtain⟨k,dj,rfl,hk,hAj,hI⟩:=hrel;obtain⟨G,hG,hcw,hfw⟩:=hAj.fam;have HG:Hid (∀t,G t=dj[t]!):=hG;have HAj:Hid (At blk off w0 wr n dj):=hAj;have HI:Hid (heapPop ltInt a k dj=heapPop ltInt a h dk):=hI;clear hG hAj hI;rcases k with _|k
     · go_wp2
       go_end0
       exact⟨rfl,by rw[HE.out,←HB.out,←HI.out];exact HAj.out⟩
     · have hki:((k+1:Nat):Int)-1=(k:Int):=by omega
       rw[hki];clear hki;obtain⟨j,hj⟩:∃j,a+k=j:=⟨_,rfl⟩;have HJ:Hid (a+k=j):=hj;(have hji:(a:Int)+(k:Int)=(j:Int):=by omega);(have hjn:j<n:=by omega);(have han:a<n:=by omega);clear hj;have HSw:Hid (At blk off w0 ((wr.drew.setCell ⟨blk,off+a,none⟩ (enc dj[j]!)).setCell ⟨blk,off+j,none⟩ (enc dj[a]!)) n (swp dj a j)):=(HAj.out.drew).swap han hjn;by_cases haj:a=j
       · subst haj
         go_wp2;go_region
         all_goals go_wp2_with (go_at_call 141;refine(siftDown_at (lo:=0) (hi:=k) (first:=a) (n:=n) (d:=swp dj a a) (w0:=w0) (by rw[HG.out];exact HSw.out) (by omega) (by omega) hsz).mono ?_;rintro e w' ⟨rfl,hw'⟩)
         go_roundw
         case rel=>
          repeat (apply Exists.intro)
          exact⟨⟨k,_,rfl,by omega,hw',by rw[←HI.out,heapPop,HJ.out]⟩,rfl⟩
         case measure=>simp[intOf]
       · go_wp2
         go_region
         all_goals go_wp2_with (go_at_call 141;refine(siftDown_at (lo:=0) (hi:=k) (first:=a) (n:=n) (d:=swp dj a j) (w0:=w0) (by rw[HG.out,HG.out];exact HSw.out) (by omega) (by omega) hsz).mono ?_;rintro e w' ⟨rfl,hw'⟩)
         go_roundw
         case rel=>
          repeat (apply Exists.intro)
          exact⟨⟨k,_,rfl,by omega,hw',by rw[←HI.out,heapPop,HJ.out]⟩,rfl⟩
         case measure=>simp[intOf]
  · have hki:((k+1:Nat):Int)-1=(k:Int):=by omega
    rw[hki];clear hki;go_wp2_with (go_at_call 141;refine(siftDown_at (lo:=k) (hi:=h) (first:=a) (n:=n) (d:=dk) HK.out (by omega) (by omega) hsz).mono ?_;rintro e w' ⟨rfl,hw'⟩)
    go_roundw
    (case rel=>exact⟨k,_,rfl,by omega,hw',by rw[←HO.out];rfl⟩);case measure=>simp[intOf]
end SrtI
end Go.Proofs.YthecngkdmnadoaaGreat

namespace Go.Proofs.YthecngkdmnadoaaGreat
open Go.RowKit Go.Sort
set_option maxRecDepth 100000
namespace SrtI
theorem up_go{p:Int→Bool}{d:Array Int}{j i:Nat}(h:i≤j)(hp:p d[i]! = true):scanUp p d j i=scanUp p d j (i+1):=by rw[scanUp,if_pos (by simp[h,hp])]
theorem up_stop{p:Int→Bool}{d:Array Int}{j i:Nat}(h:¬i≤j∨p d[i]! = false):scanUp p d j i=i:=by
 rw[scanUp,if_neg];rcases h with h|h
 · simp[h]
 · simp[h]
theorem down_go{p:Int→Bool}{d:Array Int}{j i:Nat}(h0:0<j)(h:i≤j)(hp:p d[j]! = true):scanDown p d i j=scanDown p d i (j-1):=by
 obtain⟨k,rfl⟩:∃k,j=k+1:=⟨j-1,by omega⟩;rw[scanDown,if_pos (by simp[h,hp])];rfl
theorem down_stop{p:Int→Bool}{d:Array Int}{j i:Nat}(h:¬i≤j∨p d[j]! = false):scanDown p d i j=j:=by
 cases j with
 |zero=>rfl
 |succ k=>
  rw[scanDown,if_neg];rcases h with h|h
  · simp[h]
  · simp[h]
theorem scans_apart{p q:Int→Bool}(hq:∀x,q x=!p x){d:Array Int}{i j i2 j2:Nat}(h1:scanUp p d j i=i2)(h2:scanDown q d i2 j=j2)(hi:0<i)(hle:i2≤j2):i2<j2:=by
 rcases Nat.lt_or_ge i2 j2 with h|h
 · exact h
 · have e:i2=j2:=by omega
   have hge:=scanUp_ge p d j i;have hdl:=scanDown_le q d i2 j;have s1:=(scanUp_spec p d j _ i rfl).2.2.2;have s2:=(scanDown_spec q d i2 j).2.2.2;rw[h1]at s1 hge;rw[h2]at s2 hdl;have a1:=s1 (by omega);have a2:=s2 (by omega) (by omega);rw[hq,←e,a1]at a2;cases a2
set_option maxHeartbeats 16000000 in
theorem partitionEqual_any(blk off cap a b pivot n:Nat)(d:Array Int)(w0 w:World)(hA:At blk off w0 w n d)(hap:a≤pivot)(hpb:pivot<b)(hb:b≤n)(hsz:n<2305843009213693952):
 Calls Tryz.prog 138 #[.slice (some ⟨blk,off,none⟩) n cap,.int .i64 a,.int .i64 b,.int .i64 pivot] w fun e w'=>
  e = .returned (.int .i64 ((partitionEqual ltInt d a b pivot).1:Nat))∧At blk off w0 w' n (partitionEqual ltInt d a b pivot).2:=by
 obtain⟨D,hD⟩:∃D,swp d a pivot=D:=⟨_,rfl⟩;have HE:Hid (partitionEqual ltInt d a b pivot=partEqLoop ltInt a (a+1) (b-1) D):=by show _=_;rw[partitionEqual,hD]
 have han:a<n:=by omega
 have hpn:pivot<n:=by omega
 obtain⟨G,hG,hcw,hfw⟩:=hA.fam;have HG:Hid (∀t,G t=d[t]!):=hG;have HSw:Hid (At blk off w0 ((w.drew.setCell ⟨blk,off+a,none⟩ (enc d[pivot]!)).setCell ⟨blk,off+pivot,none⟩ (enc d[a]!)) n D):=by rw[←hD];exact(hA.drew).swap han hpn
 clear hG hA hD;go_enter Tryz.func138,Tryz.ntmps138;go_wp2;by_cases hapv:a=pivot
 · subst hapv
   go_region
   all_goals go_wp2
   go_loopw [9,10] (fun vi vj wr=>∃(i j:Nat) (dk:Array Int),vi = .int .i64 i∧vj = .int .i64 j∧a<i∧i≤j+1∧j<b∧At blk off w0 wr n dk∧partEqLoop ltInt a i j dk=partEqLoop ltInt a (a+1) (b-1) D) (fun vi vj _=>(intOf vj+1-intOf vi).toNat)
   case atStart=>exact⟨a+1,b-1,D,by go_num,by congr 1;omega,by omega,by omega,by omega,(by simp only[HG.out];exact HSw.out),rfl⟩
   case round=>
    obtain⟨i,j,dk,rfl,rfl,hai,hij,hjb,hAt,hO⟩:=hrel;have HO:Hid (partEqLoop ltInt a i j dk=partEqLoop ltInt a (a+1) (b-1) D):=hO;have HK:Hid (At blk off w0 wr n dk):=hAt;clear hO hAt;go_wp2
    go_loopw [9] (fun vi wr2=>∃(i2:Nat),vi = .int .i64 i2∧i≤i2∧i2≤j+1∧At blk off w0 wr2 n dk∧scanUp (fun x=>!ltInt dk[a]! x) dk j i2=scanUp (fun x=>!ltInt dk[a]! x) dk j i) (fun vi _=>(j+1-(intOf vi).toNat))
    case atStart=>exact⟨i,rfl,Nat.le_refl _,hij,HK.out,rfl⟩
    case round=>
     obtain⟨i2,rfl,hi2,hi2j,hAt2,hI⟩:=hrel;obtain⟨G2,hG2,hcw2,hfw2⟩:=hAt2.fam;have HG2:Hid (∀t,G2 t=dk[t]!):=hG2;have HI:Hid (scanUp (fun x=>!ltInt dk[a]! x) dk j i2=scanUp (fun x=>!ltInt dk[a]! x) dk j i):=hI;have HK2:Hid (At blk off w0 wr n dk):=hAt2;clear hI hAt2 hG2;by_cases hle:i2≤j
     · have hi2n:i2<n:=by omega
       go_wp2;go_quiet (first|(go_at_call 137;refine Calls.quiet_of_same (Less_any _ _ _)));go_wp2
       · have hl:ltInt (G2 a) (G2 i2)=false:=by first|assumption|(refine bnot_t ?_;assumption)
         go_roundw
         (case rel=>exact⟨i2+1,by go_num,by omega,by omega,HK2.out.drewN _,by rw[←HI.out,←up_go hle (by show(!_)=true;rw[←HG2.out,←HG2.out,hl];rfl)]⟩);case measure=>simp[intOf];omega
       · have hl:ltInt (G2 a) (G2 i2)=true:=by first|assumption|(refine bnot_f ?_;assumption)|(refine bnot_n ?_;assumption)
         have HU:Hid (scanUp (fun x=>!ltInt dk[a]! x) dk j i=i2):=by
          show _=_;rw[←HI.out,up_stop (.inr (by show(!_)=false;rw[←HG2.out,←HG2.out,hl];rfl))]
         have HK3:Hid (At blk off w0 (wr.drewN nq) n dk):=HK2.out.drewN _
         go_loopw [10] (fun vj wr2=>∃(j2:Nat),vj = .int .i64 j2∧i2≤j2+1∧j2≤j∧At blk off w0 wr2 n dk∧scanDown (fun x=>ltInt dk[a]! x) dk i2 j2=scanDown (fun x=>ltInt dk[a]! x) dk i2 j) (fun vj _=>(intOf vj).toNat)
         case atStart=>exact⟨j,rfl,hi2j,Nat.le_refl _,HK3.out,rfl⟩
         case round=>
          obtain⟨j2,rfl,hij2,hj2,hAt3,hJ⟩:=hrel;obtain⟨G3,hG3,hcw3,hfw3⟩:=hAt3.fam;have HG3:Hid (∀t,G3 t=dk[t]!):=hG3;have HJ:Hid (scanDown (fun x=>ltInt dk[a]! x) dk i2 j2=scanDown (fun x=>ltInt dk[a]! x) dk i2 j):=hJ;have HK4:Hid (At blk off w0 wr n dk):=hAt3;clear hJ hAt3 hG3;by_cases hle2:i2≤j2
          · have hj2n:j2<n:=by omega
            go_wp2;go_quiet (first|(go_at_call 137;refine Calls.quiet_of_same (Less_any _ _ _)));go_wp2
            · have hl2:ltInt (G3 a) (G3 j2)=true:=by assumption
              go_roundw
              (case rel=>exact⟨j2-1,by congr 1;omega,by omega,by omega,HK4.out.drewN _,by rw[←HJ.out,←down_go (by omega) hle2 (by show _=true;rw[←HG3.out,←HG3.out,hl2])]⟩);case measure=>simp[intOf];omega
            · have hl2:ltInt (G3 a) (G3 j2)=false:=by assumption
              have HD:Hid (scanDown (fun x=>ltInt dk[a]! x) dk i2 j=j2):=by
               show _=_;rw[←HJ.out,down_stop (.inr (by show _=false;rw[←HG3.out,←HG3.out,hl2]))]
              have hap2:i2<j2:=scans_apart (p:=fun x=>!ltInt dk[a]! x) (fun x=>by simp) HU.out HD.out (by omega) hle2;clear hl2;go_region
              all_goals go_wp2
              go_roundw
              case rel=>
               refine⟨i2+1,j2-1,swp dk i2 j2,by go_num,by congr 1;omega,by omega,by omega,by omega,?_,by rw[←HO.out,partEqLoop_eq ltInt a i j dk,HU.out,HD.out,if_neg (by omega)]⟩;rw[HG3.out,HG3.out];exact((HK4.out.drewN _).drew).swap (by omega) (by omega)
              case measure=>simp[intOf];omega
          · go_wp2
            go_quiet (first|(go_at_call 137;refine Calls.quiet_of_same (Less_any _ _ _)));go_wp2;have HD:Hid (scanDown (fun x=>ltInt dk[a]! x) dk i2 j=j2):=by
             show _=_;rw[←HJ.out,down_stop (.inl hle2)]
            go_ret;(have hfin:partEqLoop ltInt a i j dk=(i2,dk):=by rw[partEqLoop_eq ltInt a i j dk,HU.out,HD.out,if_pos (by omega)]);refine⟨?_,?_⟩
            · rw[HE.out,←HO.out,hfin]
              first|rfl|simp
            · rw[HE.out,←HO.out,hfin]
              exact HK4.out.drewN _
     · go_wp2
       go_quiet (first|(go_at_call 137;refine Calls.quiet_of_same (Less_any _ _ _)));go_wp2;have HU:Hid (scanUp (fun x=>!ltInt dk[a]! x) dk j i=i2):=by
        show _=_;rw[←HI.out,up_stop (.inl hle)]
       have HK3:Hid (At blk off w0 (wr.drewN nq) n dk):=HK2.out.drewN _
       go_loopw [10] (fun vj wr2=>∃(j2:Nat),vj = .int .i64 j2∧i2≤j2+1∧j2≤j∧At blk off w0 wr2 n dk∧scanDown (fun x=>ltInt dk[a]! x) dk i2 j2=scanDown (fun x=>ltInt dk[a]! x) dk i2 j) (fun vj _=>(intOf vj).toNat)
       case atStart=>exact⟨j,rfl,hi2j,Nat.le_refl _,HK3.out,rfl⟩
       case round=>
        obtain⟨j2,rfl,hij2,hj2,hAt3,hJ⟩:=hrel;obtain⟨G3,hG3,hcw3,hfw3⟩:=hAt3.fam;have HG3:Hid (∀t,G3 t=dk[t]!):=hG3;have HJ:Hid (scanDown (fun x=>ltInt dk[a]! x) dk i2 j2=scanDown (fun x=>ltInt dk[a]! x) dk i2 j):=hJ;have HK4:Hid (At blk off w0 wr n dk):=hAt3;clear hJ hAt3 hG3;by_cases hle2:i2≤j2
        · exfalso;omega
        · go_wp2
          go_quiet (first|(go_at_call 137;refine Calls.quiet_of_same (Less_any _ _ _)));go_wp2;have HD:Hid (scanDown (fun x=>ltInt dk[a]! x) dk i2 j=j2):=by
           show _=_;rw[←HJ.out,down_stop (.inl hle2)]
          go_ret;(have hfin:partEqLoop ltInt a i j dk=(i2,dk):=by rw[partEqLoop_eq ltInt a i j dk,HU.out,HD.out,if_pos (by omega)]);refine⟨?_,?_⟩
          · rw[HE.out,←HO.out,hfin]
            first|rfl|simp
          · rw[HE.out,←HO.out,hfin]
            exact HK4.out.drewN _
 · go_region
   all_goals go_wp2
   go_loopw [9,10] (fun vi vj wr=>∃(i j:Nat) (dk:Array Int),vi = .int .i64 i∧vj = .int .i64 j∧a<i∧i≤j+1∧j<b∧At blk off w0 wr n dk∧partEqLoop ltInt a i j dk=partEqLoop ltInt a (a+1) (b-1) D) (fun vi vj _=>(intOf vj+1-intOf vi).toNat)
   case atStart=>exact⟨a+1,b-1,D,by go_num,by congr 1;omega,by omega,by omega,by omega,(by simp only[HG.out];exact HSw.out),rfl⟩
   case round=>
    obtain⟨i,j,dk,rfl,rfl,hai,hij,hjb,hAt,hO⟩:=hrel;have HO:Hid (partEqLoop ltInt a i j dk=partEqLoop ltInt a (a+1) (b-1) D):=hO;have HK:Hid (At blk off w0 wr n dk):=hAt;clear hO hAt;go_wp2
    go_loopw [9] (fun vi wr2=>∃(i2:Nat),vi = .int .i64 i2∧i≤i2∧i2≤j+1∧At blk off w0 wr2 n dk∧scanUp (fun x=>!ltInt dk[a]! x) dk j i2=scanUp (fun x=>!ltInt dk[a]! x) dk j i) (fun vi _=>(j+1-(intOf vi).toNat))
    case atStart=>exact⟨i,rfl,Nat.le_refl _,hij,HK.out,rfl⟩
    case round=>
     obtain⟨i2,rfl,hi2,hi2j,hAt2,hI⟩:=hrel;obtain⟨G2,hG2,hcw2,hfw2⟩:=hAt2.fam;have HG2:Hid (∀t,G2 t=dk[t]!):=hG2;have HI:Hid (scanUp (fun x=>!ltInt dk[a]! x) dk j i2=scanUp (fun x=>!ltInt dk[a]! x) dk j i):=hI;have HK2:Hid (At blk off w0 wr n dk):=hAt2;clear hI hAt2 hG2;by_cases hle:i2≤j
     · have hi2n:i2<n:=by omega
       go_wp2;go_quiet (first|(go_at_call 137;refine Calls.quiet_of_same (Less_any _ _ _)));go_wp2
       · have hl:ltInt (G2 a) (G2 i2)=false:=by first|assumption|(refine bnot_t ?_;assumption)
         go_roundw
         (case rel=>exact⟨i2+1,by go_num,by omega,by omega,HK2.out.drewN _,by rw[←HI.out,←up_go hle (by show(!_)=true;rw[←HG2.out,←HG2.out,hl];rfl)]⟩);case measure=>simp[intOf];omega
       · have hl:ltInt (G2 a) (G2 i2)=true:=by first|assumption|(refine bnot_f ?_;assumption)|(refine bnot_n ?_;assumption)
         have HU:Hid (scanUp (fun x=>!ltInt dk[a]! x) dk j i=i2):=by
          show _=_;rw[←HI.out,up_stop (.inr (by show(!_)=false;rw[←HG2.out,←HG2.out,hl];rfl))]
         have HK3:Hid (At blk off w0 (wr.drewN nq) n dk):=HK2.out.drewN _
         go_loopw [10] (fun vj wr2=>∃(j2:Nat),vj = .int .i64 j2∧i2≤j2+1∧j2≤j∧At blk off w0 wr2 n dk∧scanDown (fun x=>ltInt dk[a]! x) dk i2 j2=scanDown (fun x=>ltInt dk[a]! x) dk i2 j) (fun vj _=>(intOf vj).toNat)
         case atStart=>exact⟨j,rfl,hi2j,Nat.le_refl _,HK3.out,rfl⟩
         case round=>
          obtain⟨j2,rfl,hij2,hj2,hAt3,hJ⟩:=hrel;obtain⟨G3,hG3,hcw3,hfw3⟩:=hAt3.fam;have HG3:Hid (∀t,G3 t=dk[t]!):=hG3;have HJ:Hid (scanDown (fun x=>ltInt dk[a]! x) dk i2 j2=scanDown (fun x=>ltInt dk[a]! x) dk i2 j):=hJ;have HK4:Hid (At blk off w0 wr n dk):=hAt3;clear hJ hAt3 hG3;by_cases hle2:i2≤j2
          · have hj2n:j2<n:=by omega
            go_wp2;go_quiet (first|(go_at_call 137;refine Calls.quiet_of_same (Less_any _ _ _)));go_wp2
            · have hl2:ltInt (G3 a) (G3 j2)=true:=by assumption
              go_roundw
              (case rel=>exact⟨j2-1,by congr 1;omega,by omega,by omega,HK4.out.drewN _,by rw[←HJ.out,←down_go (by omega) hle2 (by show _=true;rw[←HG3.out,←HG3.out,hl2])]⟩);case measure=>simp[intOf];omega
            · have hl2:ltInt (G3 a) (G3 j2)=false:=by assumption
              have HD:Hid (scanDown (fun x=>ltInt dk[a]! x) dk i2 j=j2):=by
               show _=_;rw[←HJ.out,down_stop (.inr (by show _=false;rw[←HG3.out,←HG3.out,hl2]))]
              have hap2:i2<j2:=scans_apart (p:=fun x=>!ltInt dk[a]! x) (fun x=>by simp) HU.out HD.out (by omega) hle2;clear hl2;go_region
              all_goals go_wp2
              go_roundw
              case rel=>
               refine⟨i2+1,j2-1,swp dk i2 j2,by go_num,by congr 1;omega,by omega,by omega,by omega,?_,by rw[←HO.out,partEqLoop_eq ltInt a i j dk,HU.out,HD.out,if_neg (by omega)]⟩;rw[HG3.out,HG3.out];exact((HK4.out.drewN _).drew).swap (by omega) (by omega)
              case measure=>simp[intOf];omega
          · go_wp2
            go_quiet (first|(go_at_call 137;refine Calls.quiet_of_same (Less_any _ _ _)));go_wp2;have HD:Hid (scanDown (fun x=>ltInt dk[a]! x) dk i2 j=j2):=by
             show _=_;rw[←HJ.out,down_stop (.inl hle2)]
            go_ret;(have hfin:partEqLoop ltInt a i j dk=(i2,dk):=by rw[partEqLoop_eq ltInt a i j dk,HU.out,HD.out,if_pos (by omega)]);refine⟨?_,?_⟩
            · rw[HE.out,←HO.out,hfin]
              first|rfl|simp
            · rw[HE.out,←HO.out,hfin]
              exact HK4.out.drewN _
     · go_wp2
       go_quiet (first|(go_at_call 137;refine Calls.quiet_of_same (Less_any _ _ _)));go_wp2;have HU:Hid (scanUp (fun x=>!ltInt dk[a]! x) dk j i=i2):=by
        show _=_;rw[←HI.out,up_stop (.inl hle)]
       have HK3:Hid (At blk off w0 (wr.drewN nq) n dk):=HK2.out.drewN _
       go_loopw [10] (fun vj wr2=>∃(j2:Nat),vj = .int .i64 j2∧i2≤j2+1∧j2≤j∧At blk off w0 wr2 n dk∧scanDown (fun x=>ltInt dk[a]! x) dk i2 j2=scanDown (fun x=>ltInt dk[a]! x) dk i2 j) (fun vj _=>(intOf vj).toNat)
       case atStart=>exact⟨j,rfl,hi2j,Nat.le_refl _,HK3.out,rfl⟩
       case round=>
        obtain⟨j2,rfl,hij2,hj2,hAt3,hJ⟩:=hrel;obtain⟨G3,hG3,hcw3,hfw3⟩:=hAt3.fam;have HG3:Hid (∀t,G3 t=dk[t]!):=hG3;have HJ:Hid (scanDown (fun x=>ltInt dk[a]! x) dk i2 j2=scanDown (fun x=>ltInt dk[a]! x) dk i2 j):=hJ;have HK4:Hid (At blk off w0 wr n dk):=hAt3;clear hJ hAt3 hG3;by_cases hle2:i2≤j2
        · exfalso;omega
        · go_wp2
          go_quiet (first|(go_at_call 137;refine Calls.quiet_of_same (Less_any _ _ _)));go_wp2;have HD:Hid (scanDown (fun x=>ltInt dk[a]! x) dk i2 j=j2):=by
           show _=_;rw[←HJ.out,down_stop (.inl hle2)]
          go_ret;(have hfin:partEqLoop ltInt a i j dk=(i2,dk):=by rw[partEqLoop_eq ltInt a i j dk,HU.out,HD.out,if_pos (by omega)]);refine⟨?_,?_⟩
          · rw[HE.out,←HO.out,hfin]
            first|rfl|simp
          · rw[HE.out,←HO.out,hfin]
            exact HK4.out.drewN _
end SrtI
end Go.Proofs.YthecngkdmnadoaaGreat
