/- Texts that were written apart, joined. -/
import Derived.Test.YthecngkdmnadoaaGreatG03
import Derived.Sort.Row
import Derived.Sort.AssemblyPlain
import Derived.CellFam
import Derived.BigGuard
import Derived.BigCall
import Derived.BigQuiet
import Derived.Deep.QuietTactic
import Derived.RegionTactic
import Derived.BigRegion
import Derived.Handy
namespace Go.Proofs.YthecngkdmnadoaaGreat
open Go.RowKit Go.Sort
set_option maxRecDepth 100000
namespace SrtU
abbrev enc:Int→Value:=Value.int .u64
structure RStep(blk off n:Nat)(w w':World):Prop where
 os:w'.os=w.os
 tape:w'.tape=w.tape
 output:w'.output=w.output
 size:w.heap.size≤w'.heap.size
 block:∀k,k<w.heap.size→k≠blk→w'.heap[k]?=w.heap[k]?
 own:∀c e fr,w.heap[blk]?=some (.cells c e fr)→∃c',w'.heap[blk]?=some (.cells c' e fr)∧c'.size=c.size∧∀k,k<off∨off+n≤k→c'[k]?=c[k]?
theorem RStep.refl(blk off n:Nat)(w:World):RStep blk off n w w:=⟨rfl,rfl,rfl,Nat.le_refl _,fun _ _ _=>rfl,fun c _ _ h=>⟨c,h,rfl,fun _ _=>rfl⟩⟩
theorem RStep.trans{blk off n:Nat}{a b c:World}(h:RStep blk off n a b)(k:RStep blk off n b c):RStep blk off n a c:=
 ⟨k.os.trans h.os,k.tape.trans h.tape,k.output.trans h.output,Nat.le_trans h.size k.size,fun i hi hr=>(k.block i (Nat.lt_of_lt_of_le hi h.size) hr).trans (h.block i hi hr),fun c e fr hc=>by
  obtain⟨c1,h1,h2,h3⟩:=h.own c e fr hc;obtain⟨c2,k1,k2,k3⟩:=k.own c1 e fr h1;exact⟨c2,k1,k2.trans h2,fun i hi=>(k3 i hi).trans (h3 i hi)⟩⟩
theorem RStep.drewN{blk off n:Nat}{a w:World}(h:RStep blk off n a w)(m:Nat):RStep blk off n a (w.drewN m):=⟨h.os,h.tape,h.output,h.size,h.block,h.own⟩
theorem RStep.drew{blk off n:Nat}{a w:World}(h:RStep blk off n a w):RStep blk off n a w.drew:=⟨h.os,h.tape,h.output,h.size,h.block,h.own⟩
theorem RStep.setCell{blk off n:Nat}{a w:World}(h:RStep blk off n a w){i:Nat}(hi:i<n)(v:Value):RStep blk off n a (w.setCell ⟨blk,off+i,none⟩ v):=
 h.trans ⟨rfl,rfl,rfl,by simp[World.setCell],fun k _ hk=>Below.heap_setCell _ _ _ _ hk,fun c e fr hc=>⟨c.setIfInBounds (off+i) v,by simp[World.setCell,Array.getElem?_modify,hc],by simp,fun k hk=>by
  rw[Array.getElem?_setIfInBounds_ne (by omega)]⟩⟩
theorem RStep.alloc{blk off n:Nat}{a w:World}(h:RStep blk off n a w)(hb:blk<w.heap.size)(o:Obj):RStep blk off n a (w.alloc o):=
 h.trans ⟨rfl,rfl,rfl,by simp,fun k hk _=>Below.heap_alloc _ _ _ hk,fun c e fr hc=>⟨c,(Below.heap_alloc _ _ _ hb).trans hc,rfl,fun _ _=>rfl⟩⟩
theorem holds_swap{w:World}{blk off:Nat}{d:Array Int}(h:Holds enc w blk off d){i j:Nat}(hi:i<d.size)(hj:j<d.size):
 Holds enc ((w.setCell ⟨blk,off+i,none⟩ (enc d[j]!)).setCell ⟨blk,off+j,none⟩ (enc d[i]!)) blk off (swp d i j):=by
 rw[show(w.setCell ⟨blk,off+i,none⟩ (enc d[j]!)).setCell ⟨blk,off+j,none⟩ (enc d[i]!)=putRow enc w blk off (swp d i j)from by
  rw[←putRow_swp enc w blk off d i j hi hj,putRow_self enc w blk off d h]]
 exact holds_putRow enc w blk off d (swp d i j) h (size_swp d i j)
theorem holds_drewN{w:World}{blk off:Nat}{d:Array Int}(h:Holds enc w blk off d)(n:Nat):Holds enc (w.drewN n) blk off d:=h
theorem holds_drew{w:World}{blk off:Nat}{d:Array Int}(h:Holds enc w blk off d):Holds enc w.drew blk off d:=h
theorem holds_same{w w':World}{blk off:Nat}{d:Array Int}(h:Holds enc w blk off d)(e:w'.heap[blk]?=w.heap[blk]?):Holds enc w' blk off d:=fun j hj=>
 ⟨(World.cell?_of_block (w:=w) (a:=⟨blk,off+j,none⟩) e).trans (h j hj).1,(World.frozen?_of_block (w:=w) (a:=⟨blk,off+j,none⟩) e).trans (h j hj).2⟩
structure At(blk off:Nat)(w w':World)(n:Nat)(d:Array Int):Prop where
 holds:Holds enc w' blk off d
 size:d.size=n
 step:RStep blk off n w w'
theorem At.drewN{blk off n:Nat}{w w':World}{d:Array Int}(h:At blk off w w' n d)(m:Nat):At blk off w (w'.drewN m) n d:=⟨h.holds,h.size,h.step.drewN m⟩
theorem At.drew{blk off n:Nat}{w w':World}{d:Array Int}(h:At blk off w w' n d):At blk off w w'.drew n d:=⟨h.holds,h.size,h.step.drew⟩
theorem At.swap{blk off n:Nat}{w w':World}{d:Array Int}(h:At blk off w w' n d){i j:Nat}(hi:i<n)(hj:j<n):
 At blk off w ((w'.setCell ⟨blk,off+i,none⟩ (enc d[j]!)).setCell ⟨blk,off+j,none⟩ (enc d[i]!)) n (swp d i j):=
 ⟨holds_swap h.holds (by rw[h.size];exact hi) (by rw[h.size];exact hj),by rw[size_swp];exact h.size,(h.step.setCell hi _).setCell hj _⟩
theorem At.trans{blk off n:Nat}{w w1 w2:World}{d d':Array Int}(h:At blk off w w1 n d)(k:At blk off w1 w2 n d'):At blk off w w2 n d':=⟨k.holds,k.size,h.step.trans k.step⟩
theorem At.fam{blk off n:Nat}{w w':World}{d:Array Int}(h:At blk off w w' n d):∃G:Nat→Int,(∀t,G t=d[t]!)∧(∀t,t<n→w'.cell? ⟨blk,off+t,none⟩=some (.int .u64 (G t)))∧∀t,t<n→w'.frozen? ⟨blk,off+t,none⟩=false:=
 ⟨fun t=>d[t]!,fun _=>rfl,fun t ht=>(h.holds t (by rw[h.size];exact ht)).1,fun t ht=>(h.holds t (by rw[h.size];exact ht)).2⟩
theorem wrapId{x:Int}(h1 : -9223372036854775808≤x)(h2:x≤9223372036854775807):IntKind.i64.wrap x=x:=by
 simp[IntKind.wrap,IntKind.bits,IntKind.signed];omega
set_option maxHeartbeats 1000000 in
theorem isNaN_any(x:Int)(w:World):Calls Tryz.prog 129 #[.int .u64 x] w fun e w'=>e = .returned (.bool false)∧w'=w:=by
 go_enter Tryz.func129,Tryz.ntmps129;go_wp2;go_ret;exact⟨by simp,rfl⟩
set_option maxHeartbeats 1000000 in
theorem Less_any(x y:Int)(w:World):Calls Tryz.prog 110 #[.int .u64 x,.int .u64 y] w fun e w'=>e = .returned (.bool (ltInt x y))∧w'=w:=by
 go_enter Tryz.func110,Tryz.ntmps110;go_wp2_with (go_at_call 129;refine(isNaN_any _ _).mono ?_;rintro e w' ⟨rfl,rfl⟩);go_ret;exact⟨rfl,rfl⟩
end SrtU
end Go.Proofs.YthecngkdmnadoaaGreat

namespace Go.Proofs.YthecngkdmnadoaaGreat
open Go.RowKit Go.Sort
set_option maxRecDepth 100000
namespace SrtU
theorem ins_go{a j:Nat}{d:Array Int}(hj:a<j)(hl:ltInt d[j]! d[j-1]! = true):insInner ltInt a j d=insInner ltInt a (j-1) (swp d j (j-1)):=by
 obtain⟨k,rfl⟩:∃k,j=k+1:=⟨j-1,by omega⟩;rw[insInner];simp only[Nat.add_sub_cancel]at hl ⊢;rw[if_pos (by simp[hj,hl])]
theorem ins_stop{a j:Nat}{d:Array Int}(h:j≤a∨ltInt d[j]! d[j-1]! = false):insInner ltInt a j d=d:=by
 cases j with
 |zero=>rfl
 |succ k=>
  rw[insInner];simp only[Nat.add_sub_cancel]at h;rw[if_neg];rcases h with h|h
  · simp;omega
  · simp[h]
theorem outer_go{a b i:Nat}{d:Array Int}(h:i<b):insOuter ltInt a b i d=insOuter ltInt a b (i+1) (insInner ltInt a i d):=by rw[insOuter,if_pos h]
set_option maxHeartbeats 4000000 in
theorem insertionSort_any(blk off cap a b:Nat)(d:Array Int)(w:World)(hH:Holds enc w blk off d)(hab:a≤b)(hb:b≤d.size)(hsz:d.size<4611686018427387904):
 Calls Tryz.prog 104 #[.slice (some ⟨blk,off,none⟩) d.size cap,.int .i64 a,.int .i64 b] w fun e w'=>
  e = .returned (.tuple #[])∧At blk off w w' d.size (Sort.insertionSort ltInt d a b):=by
 have HA:Hid (At blk off w w d.size d):=⟨hH,rfl,RStep.refl _ _ _ _⟩;have HE:Hid (Sort.insertionSort ltInt d a b=insOuter ltInt a b (a+1) d):=rfl;generalize hn:d.size=n at *;clear hH hn;go_enter Tryz.func104,Tryz.ntmps104;go_wp2
 go_loopw [6] (fun vi wr=>∃(i:Nat) (dk:Array Int),vi = .int .i64 i∧a<i∧i≤b+1∧At blk off w wr n dk∧insOuter ltInt a b i dk=insOuter ltInt a b (a+1) d) (fun vi _=>b+1-(intOf vi).toNat)
 case atStart=>exact⟨a+1,d,by go_num,by omega,by omega,HA.out,rfl⟩
 case round=>
  obtain⟨i,dk,rfl,hai,hib,hAt,hO⟩:=hrel;have HO:Hid (insOuter ltInt a b i dk=insOuter ltInt a b (a+1) d):=hO;have HK:Hid (At blk off w wr n dk):=hAt;clear hO hAt;go_wp2
  · have hib2:i<b:=by assumption
    go_loopw [7] (fun vj wr2=>∃(j:Nat) (dj:Array Int),vj = .int .i64 j∧a≤j∧j≤i∧At blk off w wr2 n dj∧insInner ltInt a j dj=insInner ltInt a i dk) (fun vj _=>(intOf vj).toNat)
    case atStart=>exact⟨i,dk,rfl,by omega,Nat.le_refl _,HK.out,rfl⟩
    case round=>
     obtain⟨j,dj,rfl,haj,hji,hAj,hI⟩:=hrel;obtain⟨G,hG,hcw,hfw⟩:=hAj.fam;have HG:Hid (∀t,G t=dj[t]!):=hG;have HAj:Hid (At blk off w wr n dj):=hAj;have HI:Hid (insInner ltInt a j dj=insInner ltInt a i dk):=hI;clear hG hAj hI;go_wp2;by_cases hja:a<j
     · go_quiet (first|(go_at_call 110;refine Calls.quiet_of_same (Less_any _ _ _)))
       go_wp2
       · have hl:ltInt (G j) (G (j-1))=true:=by assumption
         go_region
         all_goals go_wp2
         go_roundw
         case rel=>
          refine⟨j-1,swp dj j (j-1),by congr 1;omega,by omega,by omega,?_,?_⟩
          · rw[HG.out,HG.out]
            exact((HAj.out.drewN _).drew).swap (by omega) (by omega)
          · rw[←HI.out,ins_go hja (by rw[←HG.out,←HG.out];exact hl)]
         case measure=>simp[intOf];omega
       · have hl:ltInt (G j) (G (j-1))=false:=by assumption
         go_roundw
         (case rel=>exact⟨i+1,dj,by go_num,by omega,by omega,HAj.out.drewN _,by rw[←HO.out,outer_go hib2,←HI.out,ins_stop (.inr (by rw[←HG.out,←HG.out];exact hl))]⟩);case measure=>simp[intOf];omega
     · go_quiet (first|(go_at_call 110;refine Calls.quiet_of_same (Less_any _ _ _)))
       go_wp2
       go_roundw
       (case rel=>exact⟨i+1,dj,by go_num,by omega,by omega,HAj.out.drewN _,by rw[←HO.out,outer_go hib2,←HI.out,ins_stop (.inl (by omega))]⟩);case measure=>simp[intOf];omega
  · have hge:¬i<b:=by omega
    go_end0
    exact⟨rfl,by rw[HE.out,←HO.out,insOuter,if_neg hge];exact HK.out⟩
end SrtU
end Go.Proofs.YthecngkdmnadoaaGreat

namespace Go.Proofs.YthecngkdmnadoaaGreat
open Go.RowKit Go.Sort
set_option maxRecDepth 100000
namespace SrtU
theorem bnot_t{b:Bool}(h:(!b)=true):b=false:=by cases b;rfl;cases h
theorem bnot_f{b:Bool}(h:(!b)=false):b=true:=by cases b;cases h;rfl
theorem bnot_n{b:Bool}(h:¬(!b)=true):b=true:=by cases b;exact absurd rfl h;rfl
theorem rev_go{i j:Nat}{d:Array Int}(h:i<j):reverseLoop i j d=reverseLoop (i+1) (j-1) (swp d i j):=by rw[reverseLoop,if_pos h]
theorem rev_stop{i j:Nat}{d:Array Int}(h:¬i<j):reverseLoop i j d=d:=by rw[reverseLoop,if_neg h]
set_option maxHeartbeats 4000000 in
theorem reverseRange_any(blk off cap a b:Nat)(d:Array Int)(w:World)(hH:Holds enc w blk off d)(hab:a<b)(hb:b≤d.size)(hsz:d.size<4611686018427387904):
 Calls Tryz.prog 108 #[.slice (some ⟨blk,off,none⟩) d.size cap,.int .i64 a,.int .i64 b] w fun e w'=>
  e = .returned (.tuple #[])∧At blk off w w' d.size (reverseRange d a b):=by
 have HA:Hid (At blk off w w d.size d):=⟨hH,rfl,RStep.refl _ _ _ _⟩;have HE:Hid (reverseRange d a b=reverseLoop a (b-1) d):=rfl;generalize hn:d.size=n at *;clear hH hn;go_enter Tryz.func108,Tryz.ntmps108;go_wp2
 go_loopw [6,7] (fun vi vj wr=>∃(i j:Nat) (dk:Array Int),vi = .int .i64 i∧vj = .int .i64 j∧i≤b∧j<b∧At blk off w wr n dk∧reverseLoop i j dk=reverseLoop a (b-1) d) (fun vi _ _=>b-(intOf vi).toNat)
 case atStart=>exact⟨a,b-1,d,rfl,by congr 1;omega,by omega,by omega,HA.out,rfl⟩
 case round=>
  obtain⟨i,j,dk,rfl,rfl,hi,hj,hAt,hO⟩:=hrel;obtain⟨G,hG,hcw,hfw⟩:=hAt.fam;have HG:Hid (∀t,G t=dk[t]!):=hG;have HO:Hid (reverseLoop i j dk=reverseLoop a (b-1) d):=hO;have HK:Hid (At blk off w wr n dk):=hAt;clear hO hAt hG;by_cases hij:i<j
  · go_wp2
    go_region
    all_goals go_wp2
    go_roundw
    case rel=>
     refine⟨i+1,j-1,swp dk i j,by go_num,by congr 1;omega,by omega,by omega,?_,by rw[←HO.out,rev_go hij]⟩;rw[HG.out,HG.out];exact(HK.out.drew).swap (by omega) (by omega)
    case measure=>simp[intOf];omega
  · go_wp2
    go_end0
    exact⟨rfl,by rw[HE.out,←HO.out,rev_stop hij];exact HK.out⟩
theorem sd_stop{hi f r:Nat}{d:Array Int}(h:2*r+1≥hi):siftDown ltInt hi f r d=d:=by rw[siftDown,dif_pos h]
theorem sd_right{hi f r:Nat}{d:Array Int}(h:2*r+2<hi)(hl:ltInt d[f+(2*r+1)]! d[f+(2*r+1)+1]! = true):
 siftDown ltInt hi f r d=if !ltInt d[f+r]! d[f+(2*r+2)]! then d else siftDown ltInt hi f (2*r+2) (swp d (f+r) (f+(2*r+2))):=by
 rw[siftDown,dif_neg (by omega),if_pos (by simp[hl];omega)]
 split
 · rfl
 · first|rfl|rw[dif_pos h]
theorem sd_left{hi f r:Nat}{d:Array Int}(h:2*r+1<hi)(hl:¬(2*r+2<hi∧ltInt d[f+(2*r+1)]! d[f+(2*r+1)+1]! = true)):
 siftDown ltInt hi f r d=if !ltInt d[f+r]! d[f+(2*r+1)]! then d else siftDown ltInt hi f (2*r+1) (swp d (f+r) (f+(2*r+1))):=by
 rw[siftDown,dif_neg (by omega),if_neg (by simp only[Bool.and_eq_true,decide_eq_true_eq];exact fun x=>hl x)]
set_option maxHeartbeats 8000000 in
theorem siftDown_any(blk off cap lo hi first:Nat)(d:Array Int)(w:World)(hH:Holds enc w blk off d)(hb:first+hi≤d.size)(hlo:lo≤d.size)(hsz:d.size<2305843009213693952):
 Calls Tryz.prog 124 #[.slice (some ⟨blk,off,none⟩) d.size cap,.int .i64 lo,.int .i64 hi,.int .i64 first] w fun e w'=>
  e = .returned (.tuple #[])∧At blk off w w' d.size (siftDown ltInt hi first lo d):=by
 have HA:Hid (At blk off w w d.size d):=⟨hH,rfl,RStep.refl _ _ _ _⟩;generalize hn:d.size=n at *;clear hH hn;go_enter Tryz.func124,Tryz.ntmps124;go_wp2
 go_loopw [8] (fun vr wr=>∃(r:Nat) (dk:Array Int),vr = .int .i64 r∧r≤n∧At blk off w wr n dk∧siftDown ltInt hi first r dk=siftDown ltInt hi first lo d) (fun vr _=>n+1-(intOf vr).toNat)
 case atStart=>exact⟨lo,d,rfl,hlo,HA.out,rfl⟩
 case round=>
  obtain⟨r,dk,rfl,hr,hAt,hO⟩:=hrel;obtain⟨G,hG,hcw,hfw⟩:=hAt.fam;have HG:Hid (∀t,G t=dk[t]!):=hG;have HO:Hid (siftDown ltInt hi first r dk=siftDown ltInt hi first lo d):=hO;have HK:Hid (At blk off w wr n dk):=hAt;clear hO hAt hG;by_cases hc:2*r+1<hi
  · obtain⟨c,hcd⟩:∃c:Nat,2*r+1=c:=⟨_,rfl⟩
    have HC:Hid (2*r+1=c):=hcd;(have hci:(2:Int)*(r:Int)+1=(c:Int):=by omega);(have hch:c<hi:=by omega);(have hrc:r<c:=by omega);(have hrh:r<hi:=by omega);(have hfr:(first:Int)+(r:Int)<(n:Int):=by omega);clear hcd;by_cases hc2:c+1<hi
    · have hc2':(c:Int)+1<(hi:Int):=by omega
      go_wp2;clear hci;go_quiet (first|(go_at_call 110;refine Calls.quiet_of_same (Less_any _ _ _)));go_wp2
      · have hl:ltInt (G (first+c)) (G (first+c+1))=true:=by assumption
        obtain⟨e,hed⟩:∃e:Nat,c+1=e:=⟨_,rfl⟩;(have hei:(c:Int)+1=(e:Int):=by omega);(have heh:e<hi:=by omega);(have hre:r<e:=by omega);have HSD:Hid (siftDown ltInt hi first r dk=if !ltInt dk[first+r]! dk[first+e]! then dk else siftDown ltInt hi first e (swp dk (first+r) (first+e))):=by
         have hh:=HC.out;(have e1:e=2*r+2:=by omega);subst hh;show _=_;rw[e1];exact sd_right (by omega) (by rw[←HG.out,←HG.out];exact hl)
        clear hl hed;rw[hei];clear hei;obtain⟨wq,hwq⟩:∃wq:World,wq=wr.drewN nq:=⟨_,rfl⟩;(have hcq:∀t,t<n→wq.cell? ⟨blk,off+t,none⟩=some (.int .u64 (G t)):=by rw[hwq];exact hcw);(have hfq:∀t,t<n→wq.frozen? ⟨blk,off+t,none⟩=false:=by rw[hwq];exact hfw);(have HQ:Hid (At blk off w wq n dk):=by subst hwq;exact HK.out.drewN _);rw[←hwq];clear hwq hcw hfw HK;have hw1:IntKind.i64.wrap ((first:Int)+(r:Int))=(first:Int)+(r:Int):=wrapId (by omega) (by omega);have hw2:IntKind.i64.wrap ((first:Int)+(e:Int))=(first:Int)+(e:Int):=wrapId (by omega) (by omega);(have hx1:(0:Int)≤(first:Int)+(r:Int):=by omega);(have hx2:(first:Int)+(e:Int)<(n:Int):=by omega);(have hx3:(0:Int)≤(first:Int)+(e:Int):=by omega);(have ht1:((first:Int)+(r:Int)).toNat=first+r:=by omega);(have ht2:((first:Int)+(e:Int)).toNat=first+e:=by omega);go_quiet (first|(go_at_call 110;refine Calls.quiet_of_same (Less_any _ _ _)));go_wp2
        · have hl2:ltInt (G (first+r)) (G (first+e))=false:=by first|assumption|(refine bnot_t ?_;assumption)
          go_returns;exact⟨rfl,by rw[←HO.out,HSD.out,←HG.out,←HG.out,hl2,if_pos (by simp)];exact HQ.out.drewN _⟩
        · have hl2:ltInt (G (first+r)) (G (first+e))=true:=by first|assumption|(refine bnot_f ?_;assumption)|(refine bnot_n ?_;assumption)
          go_region
          all_goals go_wp2
          go_roundw
          case rel=>
           refine⟨e,swp dk (first+r) (first+e),rfl,by omega,?_,by rw[←HO.out,HSD.out,←HG.out,←HG.out,hl2,if_neg (by simp)]⟩;rw[HG.out,HG.out];have:=((HQ.out.drewN nq).drew).swap (i:=first+r) (j:=first+e) (by omega) (by omega);simpa[Nat.add_assoc]using this
          case measure=>simp[intOf];omega
      · have hl:ltInt (G (first+c)) (G (first+c+1))=false:=by assumption
        obtain⟨e,hed⟩:∃e:Nat,c=e:=⟨_,rfl⟩;subst hed;have heh:c<hi:=hch;have hre:r<c:=hrc;have HSD:Hid (siftDown ltInt hi first r dk=if !ltInt dk[first+r]! dk[first+c]! then dk else siftDown ltInt hi first c (swp dk (first+r) (first+c))):=by
         have hh:=HC.out;subst hh;exact sd_left (by omega) (fun hx=>by have:=hx.2;rw[←HG.out,←HG.out,hl]at this;cases this)
        clear hl;obtain⟨wq,hwq⟩:∃wq:World,wq=wr.drewN nq:=⟨_,rfl⟩;(have hcq:∀t,t<n→wq.cell? ⟨blk,off+t,none⟩=some (.int .u64 (G t)):=by rw[hwq];exact hcw);(have hfq:∀t,t<n→wq.frozen? ⟨blk,off+t,none⟩=false:=by rw[hwq];exact hfw);(have HQ:Hid (At blk off w wq n dk):=by subst hwq;exact HK.out.drewN _);rw[←hwq];clear hwq hcw hfw HK;have hw1:IntKind.i64.wrap ((first:Int)+(r:Int))=(first:Int)+(r:Int):=wrapId (by omega) (by omega);have hw2:IntKind.i64.wrap ((first:Int)+(c:Int))=(first:Int)+(c:Int):=wrapId (by omega) (by omega);(have hx1:(0:Int)≤(first:Int)+(r:Int):=by omega);(have hx2:(first:Int)+(c:Int)<(n:Int):=by omega);(have hx3:(0:Int)≤(first:Int)+(c:Int):=by omega);(have ht1:((first:Int)+(r:Int)).toNat=first+r:=by omega);(have ht2:((first:Int)+(c:Int)).toNat=first+c:=by omega);go_quiet (first|(go_at_call 110;refine Calls.quiet_of_same (Less_any _ _ _)));go_wp2
        · have hl2:ltInt (G (first+r)) (G (first+c))=false:=by first|assumption|(refine bnot_t ?_;assumption)
          go_returns;exact⟨rfl,by rw[←HO.out,HSD.out,←HG.out,←HG.out,hl2,if_pos (by simp)];exact HQ.out.drewN _⟩
        · have hl2:ltInt (G (first+r)) (G (first+c))=true:=by first|assumption|(refine bnot_f ?_;assumption)|(refine bnot_n ?_;assumption)
          go_region
          all_goals go_wp2
          go_roundw
          case rel=>
           refine⟨c,swp dk (first+r) (first+c),rfl,by omega,?_,by rw[←HO.out,HSD.out,←HG.out,←HG.out,hl2,if_neg (by simp)]⟩;rw[HG.out,HG.out];have:=((HQ.out.drewN nq).drew).swap (i:=first+r) (j:=first+c) (by omega) (by omega);simpa[Nat.add_assoc]using this
          case measure=>simp[intOf];omega
    · have hc2':decide ((c:Int)+1<(hi:Int))=false:=by simp;omega
      go_wp2;clear hci;go_quiet (first|(go_at_call 110;refine Calls.quiet_of_same (Less_any _ _ _)));go_wp2;have heh:c<hi:=hch;have hre:r<c:=hrc;have HSD:Hid (siftDown ltInt hi first r dk=if !ltInt dk[first+r]! dk[first+c]! then dk else siftDown ltInt hi first c (swp dk (first+r) (first+c))):=by
       have hh:=HC.out;subst hh;exact sd_left (by omega) (fun hx=>by have:=hx.1;omega)
      obtain⟨wq,hwq⟩:∃wq:World,wq=wr.drewN nq:=⟨_,rfl⟩;(have hcq:∀t,t<n→wq.cell? ⟨blk,off+t,none⟩=some (.int .u64 (G t)):=by rw[hwq];exact hcw);(have hfq:∀t,t<n→wq.frozen? ⟨blk,off+t,none⟩=false:=by rw[hwq];exact hfw);(have HQ:Hid (At blk off w wq n dk):=by subst hwq;exact HK.out.drewN _);rw[←hwq];clear hwq hcw hfw HK;have hw1:IntKind.i64.wrap ((first:Int)+(r:Int))=(first:Int)+(r:Int):=wrapId (by omega) (by omega);have hw2:IntKind.i64.wrap ((first:Int)+(c:Int))=(first:Int)+(c:Int):=wrapId (by omega) (by omega);(have hx1:(0:Int)≤(first:Int)+(r:Int):=by omega);(have hx2:(first:Int)+(c:Int)<(n:Int):=by omega);(have hx3:(0:Int)≤(first:Int)+(c:Int):=by omega);(have ht1:((first:Int)+(r:Int)).toNat=first+r:=by omega);(have ht2:((first:Int)+(c:Int)).toNat=first+c:=by omega);go_quiet (first|(go_at_call 110;refine Calls.quiet_of_same (Less_any _ _ _)));go_wp2
      · have hl2:ltInt (G (first+r)) (G (first+c))=false:=by first|assumption|(refine bnot_t ?_;assumption)
        go_returns;exact⟨rfl,by rw[←HO.out,HSD.out,←HG.out,←HG.out,hl2,if_pos (by simp)];exact HQ.out.drewN _⟩
      · have hl2:ltInt (G (first+r)) (G (first+c))=true:=by first|assumption|(refine bnot_f ?_;assumption)|(refine bnot_n ?_;assumption)
        go_region
        all_goals go_wp2
        go_roundw
        case rel=>
         refine⟨c,swp dk (first+r) (first+c),rfl,by omega,?_,by rw[←HO.out,HSD.out,←HG.out,←HG.out,hl2,if_neg (by simp)]⟩;rw[HG.out,HG.out];have:=((HQ.out.drewN nq).drew).swap (i:=first+r) (j:=first+c) (by omega) (by omega);simpa[Nat.add_assoc]using this
        case measure=>simp[intOf];omega
  · go_wp2
    go_end0
    exact⟨rfl,by rw[←HO.out,sd_stop (by omega)];exact HK.out⟩
end SrtU
end Go.Proofs.YthecngkdmnadoaaGreat

namespace Go.Proofs.YthecngkdmnadoaaGreat
open Go.RowKit Go.Sort
set_option maxRecDepth 100000
namespace SrtU
theorem siftDown_at{blk off cap lo hi first n:Nat}{d:Array Int}{w0 w:World}(hA:At blk off w0 w n d)(hb:first+hi≤n)(hlo:lo≤n)(hsz:n<2305843009213693952):
 Calls Tryz.prog 124 #[.slice (some ⟨blk,off,none⟩) n cap,.int .i64 lo,.int .i64 hi,.int .i64 first] w fun e w'=>
  e = .returned (.tuple #[])∧At blk off w0 w' n (siftDown ltInt hi first lo d):=by
 obtain⟨h1,rfl,h3⟩:=hA;exact(siftDown_any blk off cap lo hi first d w h1 hb hlo hsz).mono fun e w' h=>⟨h.1,(At.mk h1 rfl h3).trans h.2⟩
set_option maxHeartbeats 8000000 in
theorem heapSort_any(blk off cap a b n:Nat)(d:Array Int)(w0 w:World)(hA:At blk off w0 w n d)(hab:a<b)(hb:b≤n)(hsz:n<2305843009213693952):
 Calls Tryz.prog 105 #[.slice (some ⟨blk,off,none⟩) n cap,.int .i64 a,.int .i64 b] w fun e w'=>
  e = .returned (.tuple #[])∧At blk off w0 w' n (heapSort ltInt d a b):=by
 have HA:Hid (At blk off w0 w n d):=hA;obtain⟨h,hh⟩:∃h,b-a=h:=⟨_,rfl⟩;obtain⟨m,hm⟩:∃m,(h-1)/2=m:=⟨_,rfl⟩;have HE:Hid (heapSort ltInt d a b=heapPop ltInt a h (heapBuild ltInt h a (m+1) d)):=by
  show _=_;rw[heapSort,hh,hm]
 have hh0:0<h:=by omega
 have hah:a+h≤n:=by omega
 have hmh:m<h:=by omega
 have hbi:(b:Int)-(a:Int)=(h:Int):=by omega
 have hmi:((h:Int)-1).tdiv 2=(m:Int):=by rw[Int.tdiv_eq_ediv_of_nonneg (by omega)];omega
 clear hA hh hm;go_enter Tryz.func105,Tryz.ntmps105;go_wp2
 go_loopw [9] (fun vi wr=>∃(k:Nat) (dk:Array Int),vi = .int .i64 ((k:Int)-1)∧k≤m+1∧At blk off w0 wr n dk∧heapBuild ltInt h a k dk=heapBuild ltInt h a (m+1) d) (fun vi _=>(intOf vi+1).toNat)
 case atStart=>exact⟨m+1,d,by congr 1;omega,Nat.le_refl _,HA.out,rfl⟩
 case round=>
  obtain⟨k,dk,rfl,hk,hAt,hO⟩:=hrel;have HO:Hid (heapBuild ltInt h a k dk=heapBuild ltInt h a (m+1) d):=hO;have HK:Hid (At blk off w0 wr n dk):=hAt;clear hO hAt;rcases k with _|k
  · go_wp2
    have HB:Hid (dk=heapBuild ltInt h a (m+1) d):=HO.out
    go_loopw [10] (fun vi wr2=>∃(k:Nat) (dj:Array Int),vi = .int .i64 ((k:Int)-1)∧k≤h∧At blk off w0 wr2 n dj∧heapPop ltInt a k dj=heapPop ltInt a h dk) (fun vi _=>(intOf vi+1).toNat)
    case atStart=>exact⟨h,dk,rfl,Nat.le_refl _,HK.out,rfl⟩
    case round=>
     obtain⟨k,dj,rfl,hk,hAj,hI⟩:=hrel;obtain⟨G,hG,hcw,hfw⟩:=hAj.fam;have HG:Hid (∀t,G t=dj[t]!):=hG;have HAj:Hid (At blk off w0 wr n dj):=hAj;have HI:Hid (heapPop ltInt a k dj=heapPop ltInt a h dk):=hI;clear hG hAj hI;rcases k with _|k
     · go_wp2
       go_end0
       exact⟨rfl,by rw[HE.out,←HB.out,←HI.out];exact HAj.out⟩
     · have hki:((k+1:Nat):Int)-1=(k:Int):=by omega
       rw[hki];clear hki;obtain⟨j,hj⟩:∃j,a+k=j:=⟨_,rfl⟩;have HJ:Hid (a+k=j):=hj;(have hji:(a:Int)+(k:Int)=(j:Int):=by omega);(have hjn:j<n:=by omega);(have han:a<n:=by omega);clear hj;have HSw:Hid (At blk off w0 ((wr.drew.setCell ⟨blk,off+a,none⟩ (enc dj[j]!)).setCell ⟨blk,off+j,none⟩ (enc dj[a]!)) n (swp dj a j)):=(HAj.out.drew).swap han hjn;by_cases haj:a=j
       · subst haj
         go_wp2;go_region
         all_goals go_wp2_with (go_at_call 124;refine(siftDown_at (lo:=0) (hi:=k) (first:=a) (n:=n) (d:=swp dj a a) (w0:=w0) (by rw[HG.out];exact HSw.out) (by omega) (by omega) hsz).mono ?_;rintro e w' ⟨rfl,hw'⟩)
         go_roundw
         case rel=>
          repeat (apply Exists.intro)
          exact⟨⟨k,_,rfl,by omega,hw',by rw[←HI.out,heapPop,HJ.out]⟩,rfl⟩
         case measure=>simp[intOf]
       · go_wp2
         go_region
         all_goals go_wp2_with (go_at_call 124;refine(siftDown_at (lo:=0) (hi:=k) (first:=a) (n:=n) (d:=swp dj a j) (w0:=w0) (by rw[HG.out,HG.out];exact HSw.out) (by omega) (by omega) hsz).mono ?_;rintro e w' ⟨rfl,hw'⟩)
         go_roundw
         case rel=>
          repeat (apply Exists.intro)
          exact⟨⟨k,_,rfl,by omega,hw',by rw[←HI.out,heapPop,HJ.out]⟩,rfl⟩
         case measure=>simp[intOf]
  · have hki:((k+1:Nat):Int)-1=(k:Int):=by omega
    rw[hki];clear hki;go_wp2_with (go_at_call 124;refine(siftDown_at (lo:=k) (hi:=h) (first:=a) (n:=n) (d:=dk) HK.out (by omega) (by omega) hsz).mono ?_;rintro e w' ⟨rfl,hw'⟩)
    go_roundw
    (case rel=>exact⟨k,_,rfl,by omega,hw',by rw[←HO.out];rfl⟩);case measure=>simp[intOf]
end SrtU
end Go.Proofs.YthecngkdmnadoaaGreat
