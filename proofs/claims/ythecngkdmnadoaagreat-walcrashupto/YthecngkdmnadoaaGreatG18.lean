/- Texts that were written apart, joined. -/
import Derived.Test.YthecngkdmnadoaaGreatSrtU5
import Derived.Test.YthecngkdmnadoaaGreatG15
import Derived.Handy
import Derived.Shelf.Lay
import Derived.Shelf.Small.Bits
import Derived.Ground.Names2Prog
import Derived.Sort.LotD1
import Derived.Test.YthecngkdmnadoaaGreatG03
import Derived.Sort.WalkA14
import Derived.Sort.LotD5
import Derived.Sort.Walk7a
namespace Go.Proofs.YthecngkdmnadoaaGreat
open Go.RowKit Go.Sort
set_option maxRecDepth 100000
namespace SrtU
theorem ss_go{d:Array Int}{b i:Nat}(h:i<b)(hl:ltInt d[i]! d[i-1]! = false):scanSorted ltInt d b i=scanSorted ltInt d b (i+1):=by rw[scanSorted,if_pos (by simp only[h,hl];rfl)]
theorem ss_stop{d:Array Int}{b i:Nat}(h:¬i<b∨ltInt d[i]! d[i-1]! = true):scanSorted ltInt d b i=i:=by
 rw[scanSorted,if_neg];rcases h with h|h
 · simp[h]
 · rw[h];simp
theorem sd_go1{d:Array Int}{j:Nat}(h0:0<j)(hl:ltInt d[j]! d[j-1]! = true):shiftDown ltInt j d=shiftDown ltInt (j-1) (swp d j (j-1)):=by
 obtain⟨k,rfl⟩:∃k,j=k+1:=⟨j-1,by omega⟩;simp only[Nat.add_sub_cancel]at hl ⊢;rw[shiftDown,hl,if_neg (by simp)]
theorem sd_stop1{d:Array Int}{j:Nat}(h:j=0∨ltInt d[j]! d[j-1]! = false):shiftDown ltInt j d=d:=by
 cases j with
 |zero=>rfl
 |succ k=>
  rcases h with h|h
  · omega
  · simp only[Nat.add_sub_cancel]at h
    rw[shiftDown,h,if_pos (by simp)]
theorem su_go{d:Array Int}{b j:Nat}(h:j<b)(hl:ltInt d[j]! d[j-1]! = true):shiftUp ltInt b j d=shiftUp ltInt b (j+1) (swp d j (j-1)):=by rw[shiftUp,if_pos h,hl,if_neg (by simp)]
theorem su_stop{d:Array Int}{b j:Nat}(h:¬j<b∨ltInt d[j]! d[j-1]! = false):shiftUp ltInt b j d=d:=by
 rw[shiftUp];rcases h with h|h
 · rw[if_neg h]
 · split
   · rw[h,if_pos (by simp)]
   · rfl
set_option maxHeartbeats 32000000 in
theorem partialInsertionSort_any(blk off cap a b n:Nat)(d:Array Int)(w0 w:World)(hA:At blk off w0 w n d)(hab:a<b)(hb:b≤n)(hsz:n<2305843009213693952):
 Calls Tryz.prog 109 #[.slice (some ⟨blk,off,none⟩) n cap,.int .i64 a,.int .i64 b] w fun e w'=>
  e = .returned (.bool (partialInsertionSort ltInt d a b).2)∧At blk off w0 w' n (partialInsertionSort ltInt d a b).1:=by
 obtain⟨R,hR⟩:∃R,partialIns ltInt a b 5 (a+1) d=R:=⟨_,rfl⟩;have HE:Hid (partialInsertionSort ltInt d a b=R):=by show _=_;rw[partialInsertionSort,hR]
 have HO0:Hid (partialIns ltInt a b 5 (a+1) d=R):=hR;have HA:Hid (At blk off w0 w n d):=hA;clear hA hR;go_enter Tryz.func109,Tryz.ntmps109;go_wp2
 go_loopw [7,8] (fun vi vs wr=>∃(i s:Nat) (dk:Array Int),vi = .int .i64 i∧vs = .int .i64 (5-(s:Int))∧s≤5∧a<i∧i≤b∧At blk off w0 wr n dk∧partialIns ltInt a b s i dk=R) (fun _ vs _=>(5-intOf vs).toNat)
 case atStart=>exact⟨a+1,5,d,by go_num,rfl,Nat.le_refl _,by omega,by omega,HA.out,HO0.out⟩
 case round=>
  obtain⟨i,s,dk,rfl,rfl,hs5,hai,hib,hAt,hO⟩:=hrel;have HO:Hid (partialIns ltInt a b s i dk=R):=hO;have HK:Hid (At blk off w0 wr n dk):=hAt;clear hO hAt;rcases s with _|s
  · go_wp2
    go_ret;refine⟨?_,?_⟩
    · rw[HE.out,←HO.out]
      first|rfl|simp[partialIns]
    · rw[HE.out,←HO.out]
      exact HK.out
  · have hs5':(5:Int)-((s+1:Nat):Int)<5:=by omega
    go_wp2
    go_loopw [7] (fun vi wr2=>∃(i2:Nat),vi = .int .i64 i2∧i≤i2∧i2≤b∧At blk off w0 wr2 n dk∧scanSorted ltInt dk b i2=scanSorted ltInt dk b i) (fun vi _=>(b-(intOf vi).toNat))
    case atStart=>exact⟨i,rfl,Nat.le_refl _,hib,HK.out,rfl⟩
    case round=>
     obtain⟨i2,rfl,hi2,hi2b,hAt2,hI⟩:=hrel;obtain⟨G2,hG2,hcw2,hfw2⟩:=hAt2.fam;have HG2:Hid (∀t,G2 t=dk[t]!):=hG2;have HI:Hid (scanSorted ltInt dk b i2=scanSorted ltInt dk b i):=hI;have HK2:Hid (At blk off w0 wr n dk):=hAt2;clear hI hAt2 hG2;by_cases hlt:i2<b
     · have hi2n:i2<n:=by omega
       (have hi21:1≤i2:=by omega);go_wp2;go_quiet (first|(go_at_call 110;refine Calls.quiet_of_same (Less_any _ _ _)));go_wp2
       · have hl:ltInt (G2 i2) (G2 (i2-1))=false:=by first|assumption|(refine bnot_t ?_;assumption)
         go_roundw
         (case rel=>exact⟨i2+1,by go_num,by omega,by omega,HK2.out.drewN _,by rw[←HI.out,←ss_go hlt (by rw[←HG2.out,←HG2.out,hl])]⟩);case measure=>simp[intOf];omega
       · have hl:ltInt (G2 i2) (G2 (i2-1))=true:=by first|assumption|(refine bnot_f ?_;assumption)|(refine bnot_n ?_;assumption)
         have HU:Hid (scanSorted ltInt dk b i=i2):=by
          show _=_;rw[←HI.out,ss_stop (.inr (by rw[←HG2.out,←HG2.out,hl]))]
         go_ret;refine⟨?_,?_⟩
         · rw[HE.out,←HO.out,partialIns_succ,HU.out,if_neg (by omega),if_pos (by omega)]
           first|rfl|simp
         · rw[HE.out,←HO.out,partialIns_succ,HU.out,if_neg (by omega),if_pos (by omega)]
           exact HK2.out.drewN _
       · have hl:ltInt (G2 i2) (G2 (i2-1))=true:=by first|assumption|(refine bnot_f ?_;assumption)|(refine bnot_n ?_;assumption)
         have HU:Hid (scanSorted ltInt dk b i=i2):=by
          show _=_;rw[←HI.out,ss_stop (.inr (by rw[←HG2.out,←HG2.out,hl]))]
         clear hl;obtain⟨D1,hD1⟩:∃D,swp dk i2 (i2-1)=D:=⟨_,rfl⟩;obtain⟨D2,hD2⟩:∃D,fixDown ltInt a i2 D1=D:=⟨_,rfl⟩;obtain⟨D3,hD3⟩:∃D,fixUp ltInt b i2 D2=D:=⟨_,rfl⟩;have HN:Hid (partialIns ltInt a b s i2 D3=R):=by
          show _=_;rw[←HO.out,partialIns_succ,HU.out,if_neg (by omega),if_neg (by omega),hD1,hD2,hD3]
         have HK3:Hid (At blk off w0 (((wr.drewN nq).drew.setCell ⟨blk,off+i2,none⟩ (enc dk[i2-1]!)).setCell ⟨blk,off+(i2-1),none⟩ (enc dk[i2]!)) n D1):=by
          rw[←hD1];exact((HK2.out.drewN _).drew).swap (by omega) (by omega)
         have HD2:Hid (fixDown ltInt a i2 D1=D2):=hD2;have HD3:Hid (fixUp ltInt b i2 D2=D3):=hD3;clear hD1 hD2 hD3;by_cases hbi:2≤b-i2
         · have hbi':(2:Int)≤(b:Int)-(i2:Int):=by omega
           by_cases hia:2≤i2-a
           · have hia':(2:Int)≤(i2:Int)-(a:Int):=by omega
             go_region
             all_goals go_wp2
             go_loopw [9] (fun vj wr2=>∃(m:Nat) (dj:Array Int),vj = .int .i64 m∧m≤i2-1∧At blk off w0 wr2 n dj∧shiftDown ltInt m dj=D2) (fun vj _=>(intOf vj).toNat)
             case atStart=>exact⟨i2-1,D1,by congr 1;omega,Nat.le_refl _,(by simp only[HG2.out];exact HK3.out),by rw[←HD2.out,fixDown,if_pos hia]⟩
             case round=>
              clear HK3 hcw2 hfw2 HG2 HK2 HI HU;obtain⟨m,dj,rfl,hm,hAt3,hJ⟩:=hrel;obtain⟨G3,hG3,hcw3,hfw3⟩:=hAt3.fam;have HG3:Hid (∀t,G3 t=dj[t]!):=hG3;have HJ:Hid (shiftDown ltInt m dj=D2):=hJ;have HK4:Hid (At blk off w0 wr n dj):=hAt3;clear hG3 hJ hAt3;by_cases hm1:1≤m
              · skip
                (have hmn:m<n:=by omega);obtain⟨l,hL⟩:∃l,m-1=l:=⟨_,rfl⟩;have HL:Hid (m-1=l):=hL;(have hli:(m:Int)-1=(l:Int):=by omega);(have hln:l<n:=by omega);(have hml:¬m=l:=by omega);have hwl:IntKind.i64.wrap (l:Int)=(l:Int):=wrapId (by omega) (by omega);(have hx1:(0:Int)≤(l:Int):=by omega);(have hx2:(l:Int)<(n:Int):=by omega);(have hx3:(0:Int)≤(m:Int):=by omega);(have hx4:(m:Int)<(n:Int):=by omega);(have ht1:((l:Int)).toNat=l:=by omega);clear hL;go_wp2;go_quiet (first|(go_at_call 110;refine Calls.quiet_of_same (Less_any _ _ _)));go_wp2
                · have hl2:ltInt (G3 m) (G3 l)=false:=by first|assumption|(refine bnot_t ?_;assumption)
                  have HM:Hid (At blk off w0 (wr.drewN nq) n D2):=by
                   rw[←HJ.out,sd_stop1 (.inr (by rw[HL.out,←HG3.out,←HG3.out,hl2]))];exact HK4.out.drewN _
                  clear hcw3 hfw3 HG3 HK4 HJ hl2 hwl hli hml hx1 hx2 hx3 hx4 ht1 hmn HL hln
                  go_loopw [10] (fun vj wr2=>∃(m:Nat) (dj:Array Int),vj = .int .i64 m∧i2<m∧m≤b∧At blk off w0 wr2 n dj∧shiftUp ltInt b m dj=D3) (fun vj _=>(b-(intOf vj).toNat))
                  case atStart=>exact⟨i2+1,D2,by go_num,by omega,by omega,(by first|exact HM.out|(simp only[HG2.out];exact HM.out)),by rw[←HD3.out,fixUp,if_pos hbi]⟩
                  case round=>
                   clear HM;obtain⟨m,dj,rfl,hm,hmb,hAt3,hJ⟩:=hrel;obtain⟨G3,hG3,hcw3,hfw3⟩:=hAt3.fam;have HG3:Hid (∀t,G3 t=dj[t]!):=hG3;have HJ:Hid (shiftUp ltInt b m dj=D3):=hJ;have HK4:Hid (At blk off w0 wr n dj):=hAt3;clear hG3 hJ hAt3;by_cases hm1:m<b
                   · skip
                     (have hmn:m<n:=by omega);obtain⟨l,hL⟩:∃l,m-1=l:=⟨_,rfl⟩;have HL:Hid (m-1=l):=hL;(have hli:(m:Int)-1=(l:Int):=by omega);(have hln:l<n:=by omega);(have hml:¬m=l:=by omega);have hwl:IntKind.i64.wrap (l:Int)=(l:Int):=wrapId (by omega) (by omega);(have hx1:(0:Int)≤(l:Int):=by omega);(have hx2:(l:Int)<(n:Int):=by omega);(have hx3:(0:Int)≤(m:Int):=by omega);(have hx4:(m:Int)<(n:Int):=by omega);(have ht1:((l:Int)).toNat=l:=by omega);clear hL;go_wp2;go_quiet (first|(go_at_call 110;refine Calls.quiet_of_same (Less_any _ _ _)));go_wp2
                     · have hl2:ltInt (G3 m) (G3 l)=false:=by first|assumption|(refine bnot_t ?_;assumption)
                       have HM3:Hid (At blk off w0 (wr.drewN nq) n D3):=by
                        rw[←HJ.out,su_stop (.inr (by rw[HL.out,←HG3.out,←HG3.out,hl2]))];exact HK4.out.drewN _
                       go_roundw
                       (case rel=>exact⟨i2,s,D3,rfl,by congr 1;omega,by omega,by omega,by omega,HM3.out,HN.out⟩);case measure=>simp[intOf];omega
                     · have hl2:ltInt (G3 m) (G3 l)=true:=by first|assumption|(refine bnot_f ?_;assumption)|(refine bnot_n ?_;assumption)
                       go_region
                       all_goals go_wp2
                       go_roundw
                       case rel=>
                        refine⟨m+1,swp dj m l,by go_num,by omega,by omega,?_,by rw[←HJ.out,su_go (j:=m) (d:=dj) hm1 (by rw[HL.out,←HG3.out,←HG3.out,hl2]),HL.out]⟩;simp only[HG3.out];exact((HK4.out.drewN _).drew).swap (by omega) (by omega)
                       case measure=>simp[intOf];omega
                   · go_wp2
                     have HM3:Hid (At blk off w0 wr n D3):=by
                      rw[←HJ.out,su_stop (.inl hm1)];exact HK4.out
                     go_roundw
                     (case rel=>exact⟨i2,s,D3,rfl,by congr 1;omega,by omega,by omega,by omega,HM3.out,HN.out⟩);case measure=>simp[intOf];omega
                · have hl2:ltInt (G3 m) (G3 l)=true:=by first|assumption|(refine bnot_f ?_;assumption)|(refine bnot_n ?_;assumption)
                  go_region
                  all_goals go_wp2
                  go_roundw
                  case rel=>
                   refine⟨l,swp dj m l,by congr 1;try omega,by omega,?_,by rw[←HJ.out,sd_go1 (j:=m) (d:=dj) (by omega) (by rw[HL.out,←HG3.out,←HG3.out,hl2]),HL.out]⟩;simp only[HG3.out];exact((HK4.out.drewN _).drew).swap (by omega) (by omega)
                  case measure=>simp[intOf];omega
              · have hm0:m=0:=by omega
                subst hm0;have HM:Hid (At blk off w0 wr n D2):=by
                 rw[←HJ.out];exact HK4.out
                clear hcw3 hfw3 HG3 HK4 HJ;go_wp2
                go_loopw [10] (fun vj wr2=>∃(m:Nat) (dj:Array Int),vj = .int .i64 m∧i2<m∧m≤b∧At blk off w0 wr2 n dj∧shiftUp ltInt b m dj=D3) (fun vj _=>(b-(intOf vj).toNat))
                case atStart=>exact⟨i2+1,D2,by go_num,by omega,by omega,(by first|exact HM.out|(simp only[HG2.out];exact HM.out)),by rw[←HD3.out,fixUp,if_pos hbi]⟩
                case round=>
                 clear HM;obtain⟨m,dj,rfl,hm,hmb,hAt3,hJ⟩:=hrel;obtain⟨G3,hG3,hcw3,hfw3⟩:=hAt3.fam;have HG3:Hid (∀t,G3 t=dj[t]!):=hG3;have HJ:Hid (shiftUp ltInt b m dj=D3):=hJ;have HK4:Hid (At blk off w0 wr n dj):=hAt3;clear hG3 hJ hAt3;by_cases hm1:m<b
                 · skip
                   (have hmn:m<n:=by omega);obtain⟨l,hL⟩:∃l,m-1=l:=⟨_,rfl⟩;have HL:Hid (m-1=l):=hL;(have hli:(m:Int)-1=(l:Int):=by omega);(have hln:l<n:=by omega);(have hml:¬m=l:=by omega);have hwl:IntKind.i64.wrap (l:Int)=(l:Int):=wrapId (by omega) (by omega);(have hx1:(0:Int)≤(l:Int):=by omega);(have hx2:(l:Int)<(n:Int):=by omega);(have hx3:(0:Int)≤(m:Int):=by omega);(have hx4:(m:Int)<(n:Int):=by omega);(have ht1:((l:Int)).toNat=l:=by omega);clear hL;go_wp2;go_quiet (first|(go_at_call 110;refine Calls.quiet_of_same (Less_any _ _ _)));go_wp2
                   · have hl2:ltInt (G3 m) (G3 l)=false:=by first|assumption|(refine bnot_t ?_;assumption)
                     have HM3:Hid (At blk off w0 (wr.drewN nq) n D3):=by
                      rw[←HJ.out,su_stop (.inr (by rw[HL.out,←HG3.out,←HG3.out,hl2]))];exact HK4.out.drewN _
                     go_roundw
                     (case rel=>exact⟨i2,s,D3,rfl,by congr 1;omega,by omega,by omega,by omega,HM3.out,HN.out⟩);case measure=>simp[intOf];omega
                   · have hl2:ltInt (G3 m) (G3 l)=true:=by first|assumption|(refine bnot_f ?_;assumption)|(refine bnot_n ?_;assumption)
                     go_region
                     all_goals go_wp2
                     go_roundw
                     case rel=>
                      refine⟨m+1,swp dj m l,by go_num,by omega,by omega,?_,by rw[←HJ.out,su_go (j:=m) (d:=dj) hm1 (by rw[HL.out,←HG3.out,←HG3.out,hl2]),HL.out]⟩;simp only[HG3.out];exact((HK4.out.drewN _).drew).swap (by omega) (by omega)
                     case measure=>simp[intOf];omega
                 · go_wp2
                   have HM3:Hid (At blk off w0 wr n D3):=by
                    rw[←HJ.out,su_stop (.inl hm1)];exact HK4.out
                   go_roundw
                   (case rel=>exact⟨i2,s,D3,rfl,by congr 1;omega,by omega,by omega,by omega,HM3.out,HN.out⟩);case measure=>simp[intOf];omega
           · have hia':decide ((2:Int)≤(i2:Int)-(a:Int))=false:=by simp;omega
             try (exfalso;omega)
             all_goals
              go_region
              all_goals go_wp2
              have HM:Hid (At blk off w0 (((wr.drewN nq).drew.setCell ⟨blk,off+i2,none⟩ (enc dk[i2-1]!)).setCell ⟨blk,off+(i2-1),none⟩ (enc dk[i2]!)) n D2):=by
               rw[←HD2.out,fixDown,if_neg hia];exact HK3.out
              go_loopw [10] (fun vj wr2=>∃(m:Nat) (dj:Array Int),vj = .int .i64 m∧i2<m∧m≤b∧At blk off w0 wr2 n dj∧shiftUp ltInt b m dj=D3) (fun vj _=>(b-(intOf vj).toNat))
              case atStart=>exact⟨i2+1,D2,by go_num,by omega,by omega,(by first|exact HM.out|(simp only[HG2.out];exact HM.out)),by rw[←HD3.out,fixUp,if_pos hbi]⟩
              case round=>
               clear HM;obtain⟨m,dj,rfl,hm,hmb,hAt3,hJ⟩:=hrel;obtain⟨G3,hG3,hcw3,hfw3⟩:=hAt3.fam;have HG3:Hid (∀t,G3 t=dj[t]!):=hG3;have HJ:Hid (shiftUp ltInt b m dj=D3):=hJ;have HK4:Hid (At blk off w0 wr n dj):=hAt3;clear hG3 hJ hAt3;by_cases hm1:m<b
               · skip
                 (have hmn:m<n:=by omega);obtain⟨l,hL⟩:∃l,m-1=l:=⟨_,rfl⟩;have HL:Hid (m-1=l):=hL;(have hli:(m:Int)-1=(l:Int):=by omega);(have hln:l<n:=by omega);(have hml:¬m=l:=by omega);have hwl:IntKind.i64.wrap (l:Int)=(l:Int):=wrapId (by omega) (by omega);(have hx1:(0:Int)≤(l:Int):=by omega);(have hx2:(l:Int)<(n:Int):=by omega);(have hx3:(0:Int)≤(m:Int):=by omega);(have hx4:(m:Int)<(n:Int):=by omega);(have ht1:((l:Int)).toNat=l:=by omega);clear hL;go_wp2;go_quiet (first|(go_at_call 110;refine Calls.quiet_of_same (Less_any _ _ _)));go_wp2
                 · have hl2:ltInt (G3 m) (G3 l)=false:=by first|assumption|(refine bnot_t ?_;assumption)
                   have HM3:Hid (At blk off w0 (wr.drewN nq) n D3):=by
                    rw[←HJ.out,su_stop (.inr (by rw[HL.out,←HG3.out,←HG3.out,hl2]))];exact HK4.out.drewN _
                   go_roundw
                   (case rel=>exact⟨i2,s,D3,rfl,by congr 1;omega,by omega,by omega,by omega,HM3.out,HN.out⟩);case measure=>simp[intOf];omega
                 · have hl2:ltInt (G3 m) (G3 l)=true:=by first|assumption|(refine bnot_f ?_;assumption)|(refine bnot_n ?_;assumption)
                   go_region
                   all_goals go_wp2
                   go_roundw
                   case rel=>
                    refine⟨m+1,swp dj m l,by go_num,by omega,by omega,?_,by rw[←HJ.out,su_go (j:=m) (d:=dj) hm1 (by rw[HL.out,←HG3.out,←HG3.out,hl2]),HL.out]⟩;simp only[HG3.out];exact((HK4.out.drewN _).drew).swap (by omega) (by omega)
                   case measure=>simp[intOf];omega
               · go_wp2
                 have HM3:Hid (At blk off w0 wr n D3):=by
                  rw[←HJ.out,su_stop (.inl hm1)];exact HK4.out
                 go_roundw
                 (case rel=>exact⟨i2,s,D3,rfl,by congr 1;omega,by omega,by omega,by omega,HM3.out,HN.out⟩);case measure=>simp[intOf];omega
         · have hbi':decide ((2:Int)≤(b:Int)-(i2:Int))=false:=by simp;omega
           by_cases hia:2≤i2-a
           · have hia':(2:Int)≤(i2:Int)-(a:Int):=by omega
             go_region
             all_goals go_wp2
             go_loopw [9] (fun vj wr2=>∃(m:Nat) (dj:Array Int),vj = .int .i64 m∧m≤i2-1∧At blk off w0 wr2 n dj∧shiftDown ltInt m dj=D2) (fun vj _=>(intOf vj).toNat)
             case atStart=>exact⟨i2-1,D1,by congr 1;omega,Nat.le_refl _,(by simp only[HG2.out];exact HK3.out),by rw[←HD2.out,fixDown,if_pos hia]⟩
             case round=>
              clear HK3 hcw2 hfw2 HG2 HK2 HI HU;obtain⟨m,dj,rfl,hm,hAt3,hJ⟩:=hrel;obtain⟨G3,hG3,hcw3,hfw3⟩:=hAt3.fam;have HG3:Hid (∀t,G3 t=dj[t]!):=hG3;have HJ:Hid (shiftDown ltInt m dj=D2):=hJ;have HK4:Hid (At blk off w0 wr n dj):=hAt3;clear hG3 hJ hAt3;by_cases hm1:1≤m
              · skip
                (have hmn:m<n:=by omega);obtain⟨l,hL⟩:∃l,m-1=l:=⟨_,rfl⟩;have HL:Hid (m-1=l):=hL;(have hli:(m:Int)-1=(l:Int):=by omega);(have hln:l<n:=by omega);(have hml:¬m=l:=by omega);have hwl:IntKind.i64.wrap (l:Int)=(l:Int):=wrapId (by omega) (by omega);(have hx1:(0:Int)≤(l:Int):=by omega);(have hx2:(l:Int)<(n:Int):=by omega);(have hx3:(0:Int)≤(m:Int):=by omega);(have hx4:(m:Int)<(n:Int):=by omega);(have ht1:((l:Int)).toNat=l:=by omega);clear hL;go_wp2;go_quiet (first|(go_at_call 110;refine Calls.quiet_of_same (Less_any _ _ _)));go_wp2
                · have hl2:ltInt (G3 m) (G3 l)=false:=by first|assumption|(refine bnot_t ?_;assumption)
                  have HM:Hid (At blk off w0 (wr.drewN nq) n D2):=by
                   rw[←HJ.out,sd_stop1 (.inr (by rw[HL.out,←HG3.out,←HG3.out,hl2]))];exact HK4.out.drewN _
                  clear hcw3 hfw3 HG3 HK4 HJ hl2 hwl hli hml hx1 hx2 hx3 hx4 ht1 hmn HL hln;have HM3:D2=D3:=by rw[←HD3.out,fixUp,if_neg hbi]
                  go_roundw
                  (case rel=>exact⟨i2,s,D3,rfl,by congr 1;omega,by omega,by omega,by omega,(by rw[←HM3];first|exact HM.out|(simp only[HG2.out];exact HM.out)),HN.out⟩);case measure=>simp[intOf];omega
                · have hl2:ltInt (G3 m) (G3 l)=true:=by first|assumption|(refine bnot_f ?_;assumption)|(refine bnot_n ?_;assumption)
                  go_region
                  all_goals go_wp2
                  go_roundw
                  case rel=>
                   refine⟨l,swp dj m l,by congr 1;try omega,by omega,?_,by rw[←HJ.out,sd_go1 (j:=m) (d:=dj) (by omega) (by rw[HL.out,←HG3.out,←HG3.out,hl2]),HL.out]⟩;simp only[HG3.out];exact((HK4.out.drewN _).drew).swap (by omega) (by omega)
                  case measure=>simp[intOf];omega
              · have hm0:m=0:=by omega
                subst hm0;have HM:Hid (At blk off w0 wr n D2):=by
                 rw[←HJ.out];exact HK4.out
                clear hcw3 hfw3 HG3 HK4 HJ;go_wp2;have HM3:D2=D3:=by rw[←HD3.out,fixUp,if_neg hbi]
                go_roundw
                (case rel=>exact⟨i2,s,D3,rfl,by congr 1;omega,by omega,by omega,by omega,(by rw[←HM3];first|exact HM.out|(simp only[HG2.out];exact HM.out)),HN.out⟩);case measure=>simp[intOf];omega
           · have hia':decide ((2:Int)≤(i2:Int)-(a:Int))=false:=by simp;omega
             try (exfalso;omega)
             all_goals
              go_region
              all_goals go_wp2
              have HM:Hid (At blk off w0 (((wr.drewN nq).drew.setCell ⟨blk,off+i2,none⟩ (enc dk[i2-1]!)).setCell ⟨blk,off+(i2-1),none⟩ (enc dk[i2]!)) n D2):=by
               rw[←HD2.out,fixDown,if_neg hia];exact HK3.out
              have HM3:D2=D3:=by rw[←HD3.out,fixUp,if_neg hbi]
              go_roundw
              (case rel=>exact⟨i2,s,D3,rfl,by congr 1;omega,by omega,by omega,by omega,(by rw[←HM3];first|exact HM.out|(simp only[HG2.out];exact HM.out)),HN.out⟩);case measure=>simp[intOf];omega
     · have hi2e:i2=b:=by omega
       go_wp2;go_quiet (first|(go_at_call 110;refine Calls.quiet_of_same (Less_any _ _ _)));go_wp2;have HU:Hid (scanSorted ltInt dk b i=b):=by
        show _=_;rw[←HI.out,hi2e,ss_stop (.inl (by omega))]
       go_ret;refine⟨?_,?_⟩
       · rw[HE.out,←HO.out,partialIns_succ,HU.out,if_pos rfl]
         first|rfl|simp
       · rw[HE.out,←HO.out,partialIns_succ,HU.out,if_pos rfl]
         exact HK2.out.drewN _
end SrtU
end Go.Proofs.YthecngkdmnadoaaGreat

namespace Go.Proofs.YthecngkdmnadoaaGreat
open Go.RowKit Go.Sort
set_option maxRecDepth 100000
namespace SrtU
theorem At.store{blk off n:Nat}{w0 w:World}{d:Array Int}(h:At blk off w0 w n d)(hb:blk<w0.heap.size){sb:Nat}(hs:w0.heap.size≤sb)(c:Nat)(v:Value):At blk off w0 (w.setCell ⟨sb,c,none⟩ v) n d:=by
 have hne:blk≠sb:=by omega
 refine⟨holds_same h.holds (Below.heap_setCell _ _ _ _ hne),h.size,⟨h.step.os,h.step.tape,h.step.output,by simpa[World.setCell]using h.step.size,fun k hk hkb=>?_,fun c' e fr hc=>?_⟩⟩
 · have hk2:k≠sb:=by omega
   exact(Below.heap_setCell _ _ _ _ hk2).trans (h.step.block k hk hkb)
 · obtain⟨c2,h1,h2⟩:=h.step.own c' e fr hc
   exact⟨c2,(Below.heap_setCell _ _ _ _ hne).trans h1,h2⟩
theorem At.alloc{blk off n:Nat}{w0 w:World}{d:Array Int}(h:At blk off w0 w n d)(hb:blk<w0.heap.size)(o:Obj):At blk off w0 (w.alloc o) n d:=by
 have hl:blk<w.heap.size:=Nat.lt_of_lt_of_le hb h.step.size;exact⟨holds_same h.holds (Below.heap_alloc _ _ _ hl),h.size,h.step.alloc hl o⟩
structure Pv(blk off:Nat)(w0 w:World)(n:Nat)(d:Array Int)(sb:Nat):Prop where
 at_:At blk off w0 w n d
 low:blk<w0.heap.size
 own:w0.heap.size≤sb
 cell:∃v:Int,w.cell? ⟨sb,0,none⟩=some (.int .i64 v)
 free:w.frozen? ⟨sb,0,none⟩=false
theorem Pv.drewN{blk off n sb:Nat}{w0 w:World}{d:Array Int}(h:Pv blk off w0 w n d sb)(m:Nat):Pv blk off w0 (w.drewN m) n d sb:=⟨h.at_.drewN m,h.low,h.own,h.cell,h.free⟩
theorem Pv.put{blk off n sb:Nat}{w0 w:World}{d:Array Int}(h:Pv blk off w0 w n d sb)(x:Int):Pv blk off w0 (w.setCell ⟨sb,0,none⟩ (.int .i64 x)) n d sb:=by
 obtain⟨v,hv⟩:=h.cell;exact⟨h.at_.store h.low h.own 0 _,h.low,h.own,⟨x,by go_simp⟩,by have:=h.free;go_simp⟩
set_option maxHeartbeats 4000000 in
theorem order2_any(blk off cap lo hi a b n sb:Nat)(d:Array Int)(w0 w:World)(hP:Pv blk off w0 w n d sb)(hn:hi≤n)(ha:lo≤a)(ha2:a<hi)(hb:lo≤b)(hb2:b<hi):
 Calls Tryz.prog 140 #[.slice (some ⟨blk,off,none⟩) n cap,.int .i64 a,.int .i64 b,.pointer (some ⟨sb,0,none⟩)] w fun e w'=>
  ∃x y:Nat,e = .returned (.tuple #[.int .i64 x,.int .i64 y])∧lo≤x∧x<hi∧lo≤y∧y<hi∧Pv blk off w0 w' n d sb:=by
 obtain⟨G,hG,hcw,hfw⟩:=hP.at_.fam;obtain⟨v,hv⟩:=hP.cell;have hvf:=hP.free;have HP:Hid (Pv blk off w0 w n d sb):=hP;have han:a<n:=by omega
 have hbn:b<n:=by omega
 clear hP hG;go_enter Tryz.func140,Tryz.ntmps140;go_wp2;go_quiet (first|(go_at_call 110;refine Calls.quiet_of_same (Less_any _ _ _)));go_wp2
 · go_ret2
   exact⟨b,a,rfl,hb,hb2,ha,ha2,(HP.out.drewN _).put _⟩
 · go_ret2
   exact⟨a,b,rfl,ha,ha2,hb,hb2,HP.out.drewN _⟩
set_option maxHeartbeats 4000000 in
theorem median_any(blk off cap lo hi a b c n sb:Nat)(d:Array Int)(w0 w:World)(hP:Pv blk off w0 w n d sb)(hn:hi≤n)(ha:lo≤a)(ha2:a<hi)(hb:lo≤b)(hb2:b<hi)(hc:lo≤c)(hc2:c<hi):
 Calls Tryz.prog 128 #[.slice (some ⟨blk,off,none⟩) n cap,.int .i64 a,.int .i64 b,.int .i64 c,.pointer (some ⟨sb,0,none⟩)] w fun e w'=>
  ∃x:Nat,e = .returned (.int .i64 x)∧lo≤x∧x<hi∧Pv blk off w0 w' n d sb:=by
 go_enter Tryz.func128,Tryz.ntmps128;go_wp2_with (go_at_call 140;refine(order2_any blk off cap lo hi _ _ n sb d w0 _ (by assumption) hn (by assumption) (by assumption) (by assumption) (by assumption)).mono ?_;rintro e w' ⟨x,y,rfl,h1,h2,h3,h4,P⟩);go_ret;refine⟨_,by simp;rfl,by assumption,by assumption,by assumption⟩
set_option maxHeartbeats 4000000 in
theorem medianAdjacent_any(blk off cap lo hi a n sb:Nat)(d:Array Int)(w0 w:World)(hP:Pv blk off w0 w n d sb)(hn:hi≤n)(ha:lo+1≤a)(hb:a+1<hi)(hsz:n<2305843009213693952):
 Calls Tryz.prog 127 #[.slice (some ⟨blk,off,none⟩) n cap,.int .i64 a,.pointer (some ⟨sb,0,none⟩)] w fun e w'=>
  ∃x:Nat,e = .returned (.int .i64 x)∧lo≤x∧x<hi∧Pv blk off w0 w' n d sb:=by
 obtain⟨i,hi'⟩:∃i,a-1=i:=⟨_,rfl⟩;obtain⟨j,hj'⟩:∃j,a+1=j:=⟨_,rfl⟩;have hii:(a:Int)-1=(i:Int):=by omega
 have hji:(a:Int)+1=(j:Int):=by omega
 have h1:lo≤i:=by omega
 have h2:i<hi:=by omega
 have h3:lo≤j:=by omega
 have h4:j<hi:=by omega
 have h5:lo≤a:=by omega
 have h6:a<hi:=by omega
 clear hi' hj';go_enter Tryz.func127,Tryz.ntmps127;go_wp2_with (go_at_call 128;refine(median_any blk off cap lo hi _ _ _ n sb d w0 _ (by assumption) hn (by assumption) (by assumption) (by assumption) (by assumption) (by assumption) (by assumption)).mono ?_;rintro e w' ⟨x,rfl,g1,g2,P⟩);go_ret;exact⟨x,by simp,g1,g2,P⟩
set_option maxHeartbeats 8000000 in
theorem choosePivot_any(blk off cap a b n:Nat)(d:Array Int)(w0 w:World)(hA:At blk off w0 w n d)(hlow:blk<w0.heap.size)(hab:a+12<b)(hb:b≤n)(hsz:n<2305843009213693952):
 Calls Tryz.prog 107 #[.slice (some ⟨blk,off,none⟩) n cap,.int .i64 a,.int .i64 b] w fun e w'=>
  ∃(p:Nat) (h:Int),e = .returned (.tuple #[.int .i64 p,.int .i64 h])∧a≤p∧p<b∧At blk off w0 w' n d:=by
 have HP:Hid (Pv blk off w0 (w.alloc (.cells #[.int .i64 0] 3)) n d w.heap.size):=
  ⟨hA.alloc hlow _,hlow,hA.step.size,⟨0,by go_simp⟩,by go_simp⟩
 obtain⟨l,hl⟩:∃l,b-a=l:=⟨_,rfl⟩;obtain⟨q,hq⟩:∃q,l/4=q:=⟨_,rfl⟩;obtain⟨i,hi'⟩:∃i,a+q=i:=⟨_,rfl⟩;obtain⟨j,hj'⟩:∃j,a+q*2=j:=⟨_,rfl⟩;obtain⟨k,hk'⟩:∃k,a+q*3=k:=⟨_,rfl⟩;have hli:(b:Int)-(a:Int)=(l:Int):=by omega
 have hqi:(l:Int).tdiv 4=(q:Int):=by rw[Int.tdiv_eq_ediv_of_nonneg (by omega)];omega
 have hii:(a:Int)+(q:Int)=(i:Int):=by omega
 have hji:(a:Int)+(q:Int)*2=(j:Int):=by omega
 have hki:(a:Int)+(q:Int)*3=(k:Int):=by omega
 have hl8:(8:Int)≤(l:Int):=by omega
 have i1:a+1≤i:=by omega
 have i2:i+1<b:=by omega
 have j1:a+1≤j:=by omega
 have j2:j+1<b:=by omega
 have k1:a+1≤k:=by omega
 have k2:k+1<b:=by omega
 have i3:a≤i:=by omega
 have i4:i<b:=by omega
 have j3:a≤j:=by omega
 have j4:j<b:=by omega
 have k3:a≤k:=by omega
 have k4:k<b:=by omega
 clear hl hq hi' hj' hk' hA;have hP:=HP.out;go_enter Tryz.func107,Tryz.ntmps107;go_wp2_with (first|(go_at_call 127;refine(medianAdjacent_any blk off cap a b _ n w.heap.size d w0 _ (by assumption) hb (by assumption) (by assumption) hsz).mono ?_;rintro e w' ⟨x,rfl,g1,g2,P⟩)|(go_at_call 128;refine(median_any blk off cap a b _ _ _ n w.heap.size d w0 _ (by assumption) hb (by assumption) (by assumption) (by assumption) (by assumption) (by assumption) (by assumption)).mono ?_;rintro e w' ⟨x,rfl,g1,g2,P⟩;obtain⟨v,hv⟩:=P.cell))
 all_goals go_ret2
 all_goals exact⟨x,_,rfl,g1,g2,P.at_⟩
end SrtU
end Go.Proofs.YthecngkdmnadoaaGreat

namespace Go.Proofs.YthecngkdmnadoaaGreat
open Go.RowKit Go.Shelf
set_option maxRecDepth 100000
shelf_lay Lays.n125 Nm 125 at Tryz as lays125
theorem bits_Len(x:Int)(w:World)(h0:0≤x)(h1:x≤18446744073709551615):
 Calls Tryz.prog 82 #[.int .u64 x] w fun e w'=>e = .returned (.int .i64 (Lib.bitLen x.toNat))∧w'=w:=Any.bits_Len lays125 x w h0 h1
end Go.Proofs.YthecngkdmnadoaaGreat

namespace Go.Proofs.YthecngkdmnadoaaGreat
open Go.RowKit Go.Sort
set_option maxRecDepth 100000
namespace SrtU
structure Pr(blk off:Nat)(w0 w:World)(n:Nat)(d:Array Int)(sb:Nat):Prop where
 at_:At blk off w0 w n d
 low:blk<w0.heap.size
 own:w0.heap.size≤sb
 cell:∃v:Nat,v<18446744073709551616∧w.cell? ⟨sb,0,none⟩=some (.int .u64 v)
 free:w.frozen? ⟨sb,0,none⟩=false
theorem Pr.drewN{blk off n sb:Nat}{w0 w:World}{d:Array Int}(h:Pr blk off w0 w n d sb)(m:Nat):Pr blk off w0 (w.drewN m) n d sb:=⟨h.at_.drewN m,h.low,h.own,h.cell,h.free⟩
theorem Pr.put{blk off n sb:Nat}{w0 w:World}{d:Array Int}(h:Pr blk off w0 w n d sb){x:Nat}(hx:x<18446744073709551616):Pr blk off w0 (w.setCell ⟨sb,0,none⟩ (.int .u64 x)) n d sb:=by
 obtain⟨v,_,hv⟩:=h.cell;exact⟨h.at_.store h.low h.own 0 _,h.low,h.own,⟨x,hx,by go_simp⟩,by have:=h.free;go_simp⟩
theorem xorU(x y:Nat)(hx:x<18446744073709551616)(hy:y<18446744073709551616):∃A:Nat,A<18446744073709551616∧bits .xor .u64 (x:Int) (y:Int)=(A:Int):=
 ⟨x ^^^ y,Nat.xor_lt_two_pow (n:=64) (by omega) (by omega),bits_xor_u64_nat x y hx hy⟩
set_option maxHeartbeats 4000000 in
theorem Next_any(blk off n sb:Nat)(d:Array Int)(w0 w:World)(hP:Pr blk off w0 w n d sb):
 Calls Tryz.prog 126 #[.pointer (some ⟨sb,0,none⟩)] w fun e w'=>
  ∃x:Nat,x<18446744073709551616∧e = .returned (.int .u64 x)∧Pr blk off w0 w' n d sb:=by
 obtain⟨X,hX,hc⟩:=hP.cell;have hf:=hP.free;have HP:Hid (Pr blk off w0 w n d sb):=hP;clear hP;obtain⟨A,hA,e1⟩:∃A:Nat,A<18446744073709551616∧bits .xor .u64 (X:Int) (IntKind.u64.wrap ((X:Int)*8192))=(A:Int):=by
  rw[IntKind.wrap_u64,show((X:Int)*8192%18446744073709551616)=((X*8192%18446744073709551616:Nat):Int)by omega];exact xorU _ _ hX (by omega)
 obtain⟨B,hB,e2⟩:∃B:Nat,B<18446744073709551616∧bits .xor .u64 (A:Int) ((A:Int)/128)=(B:Int):=by
  rw[show((A:Int)/128)=((A/128:Nat):Int)by omega];exact xorU _ _ hA (by omega)
 obtain⟨C,hC,e3⟩:∃C:Nat,C<18446744073709551616∧bits .xor .u64 (B:Int) (IntKind.u64.wrap ((B:Int)*131072))=(C:Int):=by
  rw[IntKind.wrap_u64,show((B:Int)*131072%18446744073709551616)=((B*131072%18446744073709551616:Nat):Int)by omega];exact xorU _ _ hB (by omega)
 have hss:∀v v',(w.setCell ⟨sb,0,none⟩ v).setCell ⟨sb,0,none⟩ v'=w.setCell ⟨sb,0,none⟩ v':=setCell_setCell w sb 0;have HC:Hid (C<18446744073709551616):=hC;clear hA hB hC hX;go_enter Tryz.func126,Tryz.ntmps126;go_wp2;go_region
 all_goals go_wp2
 all_goals go_region
 all_goals go_wp2
 all_goals go_region
 all_goals go_wp2
 go_ret;exact⟨C,HC.out,rfl,(HP.out.put HC.out).drewN 3⟩
theorem nextPower_any(l:Nat)(hl:0<l)(hl2:l<4611686018427387904)(w:World):
 Calls Tryz.prog 125 #[.int .i64 l] w fun e w'=>∃M:Nat,e = .returned (.int .u64 M)∧w'=w∧l<M∧M≤2*l:=by
 have hLen:∀w,Calls Tryz.prog 82 #[.int .u64 (l:Int)] w fun e w'=>e = .returned (.int .i64 (bitsLen l:Nat))∧w'=w:=fun w=>by
  have h:=bits_Len (l:Int) w (by omega) (by omega)
  rwa [Int.toNat_natCast,bitLen_eq _ (by omega)]at h
 have hk:bitsLen l≤62:=(bitsLen_le_iff l 62).2 (by omega);have hp:=wrap_two_pow (bitsLen l) hk;have h1:=lt_two_pow_bitsLen l;have h2:=two_pow_bitsLen_le hl;have HH:Hid (l<2 ^ bitsLen l∧2 ^ bitsLen l≤2*l):=⟨h1,h2⟩;clear h1 h2;go_enter Tryz.func125,Tryz.ntmps125;go_wp2_with (first|(go_at_call 82;refine(hLen _).mono ?_;rintro e w' ⟨rfl,rfl⟩));go_ret;exact⟨1 <<< bitsLen l,rfl,rfl,by rw[Nat.one_shiftLeft];exact HH.out.1,by rw[Nat.one_shiftLeft];exact HH.out.2⟩
end SrtU
end Go.Proofs.YthecngkdmnadoaaGreat
