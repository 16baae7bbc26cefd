/- Texts that were written apart, joined. -/
import Derived.Test.YthecngkdmnadoaaGreatG48
import Derived.Laws.Bits64b
import Derived.Deep.Cut
import Derived.Deep.CutRange
import Derived.Test.YthecngkdmnadoaaGreatG20
import Derived.Handy
namespace Go.Proofs.YthecngkdmnadoaaGreat
open Go.RowKit Go.Sort
set_option maxRecDepth 100000
namespace SrtI
theorem Pr.swap{blk off n sb:Nat}{w0 w:World}{d:Array Int}(h:Pr blk off w0 w n d sb){i j:Nat}(hi:i<n)(hj:j<n):
 Pr blk off w0 ((w.drew.setCell ⟨blk,off+i,none⟩ (enc d[j]!)).setCell ⟨blk,off+j,none⟩ (enc d[i]!)) n (swp d i j) sb:=by
 have hne:sb≠blk:=by have:=h.low;have:=h.own;omega
 obtain⟨v,hv,hc⟩:=h.cell;refine⟨(h.at_.drew).swap hi hj,h.low,h.own,⟨v,hv,?_⟩,?_⟩
 · rw[World.cell?_of_block (w:=w) (a:=⟨sb,0,none⟩) (by
    show((w.drew.setCell ⟨blk,off+i,none⟩ (enc d[j]!)).setCell ⟨blk,off+j,none⟩ (enc d[i]!)).heap[sb]?=w.heap[sb]?;rw[Below.heap_setCell _ _ _ _ hne,Below.heap_setCell _ _ _ _ hne];rfl)]
   exact hc
 · rw[World.frozen?_of_block (w:=w) (a:=⟨sb,0,none⟩) (by
    show((w.drew.setCell ⟨blk,off+i,none⟩ (enc d[j]!)).setCell ⟨blk,off+j,none⟩ (enc d[i]!)).heap[sb]?=w.heap[sb]?;rw[Below.heap_setCell _ _ _ _ hne,Below.heap_setCell _ _ _ _ hne];rfl)]
   exact h.free
theorem andU(x M:Nat)(hx:x<18446744073709551616)(h0:0<M)(hM:M<9223372036854775808):∃A:Nat,A<M∧bits .and .u64 (x:Int) ((M:Int)-1)=(A:Int):=
 ⟨x &&& (M-1),by have:=Nat.and_le_right (n:=x) (m:=M-1);omega,by rw[show((M:Int)-1)=((M-1:Nat):Int)by omega,bits_and_u64_nat _ _ hx (by omega)]⟩
set_option maxHeartbeats 8000000 in
theorem breakPatterns_any(blk off cap a b n:Nat)(d:Array Int)(w0 w:World)(hA:At blk off w0 w n d)(hlow:blk<w0.heap.size)(hab:a+12<b)(hb:b≤n)(hsz:n<2305843009213693952):
 Calls Tryz.prog 133 #[.slice (some ⟨blk,off,none⟩) n cap,.int .i64 a,.int .i64 b] w fun e w'=>
  e = .returned (.tuple #[])∧∃d',PermIn a b d d'∧At blk off w0 w' n d':=by
 obtain⟨l,hl⟩:∃l,b-a=l:=⟨_,rfl⟩;obtain⟨q,hq⟩:∃q,l/4=q:=⟨_,rfl⟩;obtain⟨m,hm⟩:∃m,a+q*2=m:=⟨_,rfl⟩;have hli:(b:Int)-(a:Int)=(l:Int):=by omega
 have hqi:(l:Int).tdiv 4=(q:Int):=by rw[Int.tdiv_eq_ediv_of_nonneg (by omega)];omega
 have hmi:(a:Int)+(q:Int)*2=(m:Int):=by omega
 have hl8:(8:Int)≤(l:Int):=by omega
 have hal:a+l=b:=by omega
 have m1:a+1≤m:=by omega
 have m2:m+1<b:=by omega
 have hl0:0<l:=by omega
 have hln:l<2305843009213693952:=by omega
 have HP:Hid (Pr blk off w0 (w.alloc (.cells #[.int .u64 l] 177)) n d w.heap.size):=
  ⟨hA.alloc hlow _,hlow,hA.step.size,⟨l,by omega,by go_simp⟩,by go_simp⟩
 have hds:d.size=n:=hA.size;clear hl hq hm hA;have HDS:Hid (d.size=n):=hds;clear hds;go_enter Tryz.func133,Tryz.ntmps133;go_wp2_with (go_at_call 125;refine(nextPower_any l hl0 (by omega) _).mono ?_;rintro e w' ⟨M,rfl,rfl,hM1,hM2⟩);have hM0:0<M:=by omega
 have hM3:M<4611686018427387904:=by omega
 have HM:Hid (M≤2*l):=hM2;clear hM2
 go_loopw [9] (fun vi wr=>∃(t:Nat) (dk:Array Int),vi = .int .i64 t∧m≤t+1∧t≤m+2∧Pr blk off w0 wr n dk w.heap.size∧PermIn a b d dk) (fun vi _=>(m+2-(intOf vi).toNat))
 case atStart=>exact⟨m-1,d,by congr 1;omega,by omega,by omega,HP.out,permIn_refl d a b⟩
 case round=>
  obtain⟨t,dk,rfl,ht1,ht2,hP1,hp⟩:=hrel;have HP1:Hid (Pr blk off w0 wr n dk w.heap.size):=hP1;have Hp:Hid (PermIn a b d dk):=hp;clear hP1 hp HP;by_cases ht:t≤m+1
  · have hti:(t:Int)≤(m:Int)+1:=by omega
    (have htn:t<n:=by omega);go_wp2_with (go_at_call 126;refine(Next_any blk off n w.heap.size dk w0 _ HP1.out).mono ?_;rintro e w' ⟨x,hx,rfl,hP2⟩;obtain⟨o,ho,hoe⟩:=andU x M hx hM0 (by omega);have ho2:o<4611686018427387904:=by omega)
    · have hlo:l≤o:=by omega
      obtain⟨y,hy⟩:∃y,a+(o-l)=y:=⟨_,rfl⟩;(have hyi:(a:Int)+((o:Int)-(l:Int))=(y:Int):=by omega);(have hyb:y<b:=by have:=HM.out;omega);(have hay:a≤y:=by omega);(have hyn:y<n:=by omega);obtain⟨G,hG,hcw,hfw⟩:=hP2.at_.fam;have HG:Hid (∀t,G t=dk[t]!):=hG;have HP3:Hid (Pr blk off w0 ((w'.drew.setCell ⟨blk,off+t,none⟩ (enc dk[y]!)).setCell ⟨blk,off+y,none⟩ (enc dk[t]!)) n (swp dk t y) w.heap.size):=hP2.swap htn hyn;have HQ:Hid (PermIn a b d (swp dk t y)):=permIn_trans _ _ _ a b Hp.out (swp_permIn dk a b t y (by omega) (by omega) hay hyb (by rw[hP2.at_.size];exact hb));clear hG hP2 hy;by_cases hty:t=y
      · subst hty
        go_region
        all_goals go_wp2
        go_roundw
        case rel=>
         exact⟨t+1,_,by go_num,by omega,by omega,(by simp only[HG.out];exact HP3.out),HQ.out⟩
        case measure=>simp[intOf];omega
      · go_region
        all_goals go_wp2
        go_roundw
        case rel=>
         exact⟨t+1,_,by go_num,by omega,by omega,(by simp only[HG.out];exact HP3.out),HQ.out⟩
        case measure=>simp[intOf];omega
    · have hlo:o<l:=by omega
      obtain⟨y,hy⟩:∃y,a+o=y:=⟨_,rfl⟩;(have hyi:(a:Int)+(o:Int)=(y:Int):=by omega);(have hyb:y<b:=by omega);(have hay:a≤y:=by omega);(have hyn:y<n:=by omega);obtain⟨G,hG,hcw,hfw⟩:=hP2.at_.fam;have HG:Hid (∀t,G t=dk[t]!):=hG;have HP3:Hid (Pr blk off w0 ((w'.drew.setCell ⟨blk,off+t,none⟩ (enc dk[y]!)).setCell ⟨blk,off+y,none⟩ (enc dk[t]!)) n (swp dk t y) w.heap.size):=hP2.swap htn hyn;have HQ:Hid (PermIn a b d (swp dk t y)):=permIn_trans _ _ _ a b Hp.out (swp_permIn dk a b t y (by omega) (by omega) hay hyb (by rw[hP2.at_.size];exact hb));clear hG hP2 hy;by_cases hty:t=y
      · subst hty
        go_region
        all_goals go_wp2
        go_roundw
        case rel=>
         exact⟨t+1,_,by go_num,by omega,by omega,(by simp only[HG.out];exact HP3.out),HQ.out⟩
        case measure=>simp[intOf];omega
      · go_region
        all_goals go_wp2
        go_roundw
        case rel=>
         exact⟨t+1,_,by go_num,by omega,by omega,(by simp only[HG.out];exact HP3.out),HQ.out⟩
        case measure=>simp[intOf];omega
  · go_wp2
    go_end0
    exact⟨rfl,dk,Hp.out,HP1.out.at_⟩
end SrtI
end Go.Proofs.YthecngkdmnadoaaGreat

namespace Go.Proofs.YthecngkdmnadoaaGreat
open Go.RowKit Go.Sort
set_option maxRecDepth 100000
namespace SrtI
theorem insertionSort_at{blk off cap a b n:Nat}{d:Array Int}{w0 w:World}(hA:At blk off w0 w n d)(hab:a≤b)(hb:b≤n)(hsz:n<2305843009213693952):
 Calls Tryz.prog 131 #[.slice (some ⟨blk,off,none⟩) n cap,.int .i64 a,.int .i64 b] w fun e w'=>
  e = .returned (.tuple #[])∧At blk off w0 w' n (Sort.insertionSort ltInt d a b):=by
 obtain⟨h1,rfl,h3⟩:=hA
 exact(insertionSort_any blk off cap a b d w h1 hab hb (by omega)).mono fun e w' h=>⟨h.1,(At.mk h1 rfl h3).trans h.2⟩
theorem reverseRange_at{blk off cap a b n:Nat}{d:Array Int}{w0 w:World}(hA:At blk off w0 w n d)(hab:a<b)(hb:b≤n)(hsz:n<2305843009213693952):
 Calls Tryz.prog 135 #[.slice (some ⟨blk,off,none⟩) n cap,.int .i64 a,.int .i64 b] w fun e w'=>
  e = .returned (.tuple #[])∧At blk off w0 w' n (reverseRange d a b):=by
 obtain⟨h1,rfl,h3⟩:=hA
 exact(reverseRange_any blk off cap a b d w h1 hab hb (by omega)).mono fun e w' h=>⟨h.1,(At.mk h1 rfl h3).trans h.2⟩
structure Mid(blk off n:Nat)(w0:World)(a b:Nat)(d:Array Int)(a' b':Nat)(dk:Array Int)(wr:World):Prop where
 ab:a'≤b'
 bn:b'≤n
 below:Go.Sort.Below ltInt a' b' dk
 at_:At blk off w0 wr n dk
 then_:∀R,PermIn a' b' dk R→SortedIn ltInt a' b' R→PermIn a b d R∧SortedIn ltInt a b R
theorem Mid.sz{blk off n:Nat}{w0:World}{a b:Nat}{d:Array Int}{a' b':Nat}{dk:Array Int}{wr:World}(h:Mid blk off n w0 a b d a' b' dk wr):b'≤dk.size:=by rw[h.at_.size];exact h.bn
theorem Mid.step{blk off n:Nat}{w0:World}{a b:Nat}{d:Array Int}{a' b':Nat}{dk d2:Array Int}{wr w2:World}(h:Mid blk off n w0 a b d a' b' dk wr)(hp:PermIn a' b' dk d2)(hA:At blk off w0 w2 n d2):
 Mid blk off n w0 a b d a' b' d2 w2:=⟨h.ab,h.bn,h.below.perm h.sz hp,hA,fun R h1 h2=>h.then_ R (permIn_trans _ _ _ _ _ hp h1) h2⟩
theorem Mid.same{blk off n:Nat}{w0:World}{a b:Nat}{d:Array Int}{a' b':Nat}{dk:Array Int}{wr w2:World}(h:Mid blk off n w0 a b d a' b' dk wr)(hA:At blk off w0 w2 n dk):
 Mid blk off n w0 a b d a' b' dk w2:=h.step (permIn_refl _ _ _) hA
def Sorts(blk off n a b:Nat)(d:Array Int)(w0:World)(e:Ending)(w':World):Prop:=e = .returned (.tuple #[])∧∃R,PermIn a b d R∧SortedIn ltInt a b R∧At blk off w0 w' n R
theorem Mid.done{blk off n:Nat}{w0:World}{a b:Nat}{d:Array Int}{a' b':Nat}{dk d2:Array Int}{wr w2:World}(h:Mid blk off n w0 a b d a' b' dk wr)(hp:PermIn a' b' dk d2∧SortedIn ltInt a' b' d2)(hA:At blk off w0 w2 n d2):
 Sorts blk off n a b d w0 (.returned (.tuple #[])) w2:=⟨rfl,d2,(h.then_ d2 hp.1 hp.2).1,(h.then_ d2 hp.1 hp.2).2,hA⟩
theorem Mid.insert{blk off n:Nat}{w0:World}{a b:Nat}{d:Array Int}{a' b':Nat}{dk:Array Int}{wr w2:World}(h:Mid blk off n w0 a b d a' b' dk wr)(hA:At blk off w0 w2 n (Sort.insertionSort ltInt dk a' b')):
 Sorts blk off n a b d w0 (.returned (.tuple #[])) w2:=h.done (insertionSort_holds swo_ltInt dk a' b' h.ab h.sz) hA
theorem Mid.heap{blk off n:Nat}{w0:World}{a b:Nat}{d:Array Int}{a' b':Nat}{dk:Array Int}{wr w2:World}(h:Mid blk off n w0 a b d a' b' dk wr)(hA:At blk off w0 w2 n (heapSort ltInt dk a' b')):
 Sorts blk off n a b d w0 (.returned (.tuple #[])) w2:=h.done (heapSort_holds swo_ltInt dk a' b' h.ab h.sz) hA
theorem Mid.eqs{blk off n:Nat}{w0:World}{a b:Nat}{d:Array Int}{a' b' p:Nat}{dk:Array Int}{wr w2:World}(h:Mid blk off n w0 a b d a' b' dk wr)(ha:0<a')(hp1:a'≤p)(hp2:p<b')(hl:ltInt dk[a'-1]! dk[p]! = false)
 (hA:At blk off w0 w2 n (partitionEqual ltInt dk a' b' p).2):a'<(partitionEqual ltInt dk a' b' p).1∧(partitionEqual ltInt dk a' b' p).1≤b'∧Mid blk off n w0 a b d (partitionEqual ltInt dk a' b' p).1 b' (partitionEqual ltInt dk a' b' p).2 w2:=by
 obtain⟨h1,h2,h3,h4,h5⟩:=round_eq swo_ltInt (partitionEqual_holds ltInt) ha hp1 hp2 h.sz h.below hl (mid:=(partitionEqual ltInt dk a' b' p).1) (d4:=(partitionEqual ltInt dk a' b' p).2) rfl
 exact⟨h1,h2,⟨h2,h.bn,h4,hA,fun R r1 r2=>h.then_ R (h5 R r1 r2).1 (h5 R r1 r2).2⟩⟩
structure Parts(blk off n:Nat)(w0:World)(a b:Nat)(d:Array Int)(a' b' m:Nat)(d4:Array Int):Prop where
 lo:a'≤m
 hi:m<b'
 bn:b'≤n
 bl:Go.Sort.Below ltInt a' m d4
 br:Go.Sort.Below ltInt (m+1) b' d4
 left:∀L w2,PermIn a' m d4 L→SortedIn ltInt a' m L→At blk off w0 w2 n L→Mid blk off n w0 a b d (m+1) b' L w2
 right:∀L w2,PermIn (m+1) b' d4 L→SortedIn ltInt (m+1) b' L→At blk off w0 w2 n L→Mid blk off n w0 a b d a' m L w2
theorem Mid.parts{blk off n:Nat}{w0:World}{a b:Nat}{d:Array Int}{a' b' p:Nat}{dk:Array Int}{wr:World}(h:Mid blk off n w0 a b d a' b' dk wr)(hp1:a'≤p)(hp2:p<b'):
 Parts blk off n w0 a b d a' b' (partition ltInt dk a' b' p).1 (partition ltInt dk a' b' p).2.2:=by
 obtain⟨h1,h2,h3,h4,h5,h6,h7⟩:=round_part swo_ltInt (partition_holds ltInt) hp1 hp2 h.sz h.below (mid:=(partition ltInt dk a' b' p).1) (ap:=(partition ltInt dk a' b' p).2.1) (d4:=(partition ltInt dk a' b' p).2.2) rfl
 exact⟨h1,h2,h.bn,h4,h5,fun L w2 l1 l2 l3=>⟨by omega,h.bn,(h6 L l1 l2).1,l3,fun R r1 r2=>h.then_ R ((h6 L l1 l2).2 R r1 r2).1 ((h6 L l1 l2).2 R r1 r2).2⟩,
  fun L w2 l1 l2 l3=>⟨by omega,by have:=h.bn;omega,(h7 L l1 l2).1,l3,fun R r1 r2=>h.then_ R ((h7 L l1 l2).2 R r1 r2).1 ((h7 L l1 l2).2 R r1 r2).2⟩⟩
set_option maxHeartbeats 32000000 in
theorem pdq_any(N:Nat):∀(blk off cap a b n lim:Nat) (d:Array Int) (w0 w:World),b-a≤N→At blk off w0 w n d→blk<w0.heap.size→a≤b→b≤n→n<2305843009213693952→lim<4611686018427387904→Go.Sort.Below ltInt a b d →
 Calls Tryz.prog 120 #[.slice (some ⟨blk,off,none⟩) n cap,.int .i64 a,.int .i64 b,.int .i64 lim] w (Sorts blk off n a b d w0):=by
 induction N using Nat.strongRecOn with
 |_ N ih=>
 intro blk off cap a b n lim d w0 w hN hA hlow hab hb hsz hlim hBel
 have HIH:Hid (∀(a b lim:Nat) (d:Array Int) (w:World),b-a<N→At blk off w0 w n d→a≤b→b≤n→lim<4611686018427387904→Go.Sort.Below ltInt a b d →
  Calls Tryz.prog 120 #[.slice (some ⟨blk,off,none⟩) n cap,.int .i64 a,.int .i64 b,.int .i64 lim] w (Sorts blk off n a b d w0)):=
  fun a b lim d w h1 h2 h3 h4 h5 h6=>ih (b-a) h1 blk off cap a b n lim d w0 w (Nat.le_refl _) h2 hlow h3 h4 hsz h5 h6
 have HM:Hid (Mid blk off n w0 a b d a b d w):=⟨hab,hb,hBel,hA,fun R h1 h2=>⟨h1,h2⟩⟩
 clear ih hA hBel
 go_enter Tryz.func120,Tryz.ntmps120
 go_wp2
 go_loopw [1,2,3,8,9] (fun s1 s2 s3 s8 s9 wr=>∃(a' b' l:Nat) (wb wp:Bool) (dk:Array Int),s1 = .int .i64 a'∧s2 = .int .i64 b'∧s3 = .int .i64 l∧s8 = .bool wb∧s9 = .bool wp∧b'-a'≤N∧l<4611686018427387904∧Mid blk off n w0 a b d a' b' dk wr) (fun s1 s2 _ _ _ _=>(intOf s2-intOf s1).toNat)
 case atStart=>exact⟨a,b,lim,true,true,d,rfl,rfl,rfl,rfl,rfl,hN,hlim,HM.out⟩
 case round=>
  clear HM
  obtain⟨a',b',l,wb,wp,dk,rfl,rfl,rfl,rfl,rfl,hN',hl,hM⟩:=hrel
  have hab':=hM.ab
  have hbn':=hM.bn
  have HM:Hid (Mid blk off n w0 a b d a' b' dk wr):=hM
  clear hM
  by_cases h12:b'-a'≤12
  · have h12z:(b':Int)-(a':Int)≤12:=by omega
    go_wp2_with (go_at_call 131;refine(insertionSort_at HM.out.at_ hab' hbn' hsz).mono ?_;rintro e w1 ⟨rfl,hw1⟩)
    go_returns
    exact HM.out.insert hw1
  · have h12z:¬((b':Int)-(a':Int)≤12):=by omega
    by_cases hl0:l=0
    · subst hl0
      go_wp2_with (go_at_call 132;refine(heapSort_any blk off cap a' b' n dk w0 _ HM.out.at_ (by omega) hbn' hsz).mono ?_;rintro e w1 ⟨rfl,hw1⟩)
      go_returns
      exact HM.out.heap hw1
    · have hl0z:¬((l:Int)=0):=by omega
      go_upto_if 35 with fail
      go_cut [3]from 19 (fun s3 wc=>∃(l1:Nat) (d1:Array Int),s3 = .int .i64 l1∧l1<4611686018427387904∧Mid blk off n w0 a b d a' b' d1 wc)
      case first=>
       cases wb
       · go_wp2_with (go_at_call 133;refine(breakPatterns_any blk off cap a' b' n dk w0 _ HM.out.at_ hlow (by omega) hbn' hsz).mono ?_;rintro e w1 ⟨rfl,d1,hp1,hw1⟩)
         go_meet
         case rel=>exact⟨l-1,d1,by congr 1;omega,by omega,HM.out.step hp1 hw1⟩
       · go_wp2_with fail
         go_meet
         case rel=>exact⟨l,dk,rfl,hl,HM.out⟩
      case rest=>
       clear HM
       obtain⟨l1,d1,rfl,hl1,hM1⟩:=hcut
       have HM1:Hid (Mid blk off n w0 a b d a' b' d1 wc):=hM1
       clear hM1
       go_upto_if 50 with(go_at_call 134;refine(choosePivot_any blk off cap a' b' n d1 w0 _ HM1.out.at_ hlow (by omega) hbn' hsz).mono ?_;rintro e w2 ⟨p,h,rfl,hp1,hp2,hw2⟩)
       have HM2:Hid (Mid blk off n w0 a b d a' b' d1 w2):=HM1.out.same hw2
       clear hw2 HM1
       go_cut [11,12]from 19 (fun s11 s12 wc=>∃(p:Nat) (h:Int) (d2:Array Int),s11 = .int .i64 p∧s12 = .int .i64 h∧a'≤p∧p<b'∧Mid blk off n w0 a b d a' b' d2 wc)
       case first=>
        by_cases hh:h=2
        · subst hh
          go_wp2_with (go_at_call 135;refine(reverseRange_at HM2.out.at_ (by omega) hbn' hsz).mono ?_;rintro e w3 ⟨rfl,hw3⟩)
          go_meet
          case rel=>exact⟨(b'-1)-(p-a'),1,_,by congr 1;omega,rfl,by omega,by omega,HM2.out.step (reverseRange_holds d1 a' b' hab' HM2.out.sz) hw3⟩
        · have hhb:(h==2)=false:=by simp[hh]
          go_wp2_with fail
          go_meet
          case rel=>exact⟨p,h,d1,rfl,rfl,hp1,hp2,HM2.out⟩
       case rest=>
        clear HM2 hp1 hp2
        obtain⟨p,h,d2,rfl,rfl,hp1,hp2,hM2⟩:=hcut
        have HM2:Hid (Mid blk off n w0 a b d a' b' d2 wc):=hM2
        clear hM2
        go_upto_region 15 with fail
        go_cut [68]from 19 (fun s68 wx=>∃t:Bool,s68 = .bool t∧wx=wc)
        case first=>
         cases wb <;> cases wp <;> (go_wp2_with fail
                                    go_meet
                                    exact⟨_,rfl,rfl⟩)
        case rest=>
         obtain⟨t,rfl,rfl⟩:=hcut
         go_upto_if 68 with fail
         go_cut []from 19 (fun wx=>∃d3:Array Int,Mid blk off n w0 a b d a' b' d3 wx)
         case first=>
          cases t
          · go_wp2_with fail
            go_meet
            case rel=>exact⟨d2,HM2.out⟩
          · obtain⟨pi,hpi⟩:∃pi,partialInsertionSort ltInt d2 a' b'=pi:=⟨_,rfl⟩
            have HPI:Hid (PermIn a' b' d2 pi.1∧(pi.2=true→SortedIn ltInt a' b' pi.1)):=by
             show _∧_
             rw[←hpi]
             exact partialInsertionSort_holds swo_ltInt d2 a' b' (by omega) HM2.out.sz HM2.out.below
            have hc:=fun w hA=>partialInsertionSort_any blk off cap a' b' n d2 w0 w hA (by omega) hbn' hsz
            rw[hpi]at hc
            obtain⟨p1,pb⟩:=pi
            have HC:Hid (∀w,At blk off w0 w n d2→Calls Tryz.prog 136 #[.slice (some ⟨blk,off,none⟩) n cap,.int .i64 a',.int .i64 b'] w fun e w'=>e = .returned (.bool pb)∧At blk off w0 w' n p1):=hc
            clear hc hpi
            cases pb
            · go_wp2_with (go_at_call 136;refine(HC.out _ HM2.out.at_).mono ?_;rintro e w4 ⟨rfl,hw4⟩)
              go_meet
              case rel=>exact⟨p1,HM2.out.step HPI.out.1 hw4⟩
            · go_wp2_with (go_at_call 136;refine(HC.out _ HM2.out.at_).mono ?_;rintro e w4 ⟨rfl,hw4⟩)
              go_returns
              exact HM2.out.done ⟨HPI.out.1,HPI.out.2 (by first|trivial|exact rfl)⟩ hw4
         case rest=>
          clear HM2
          obtain⟨d3,hM3⟩:=hcut
          obtain⟨G,hG,hcw,hfw⟩:=hM3.at_.fam
          have HG:Hid (∀t,G t=d3[t]!):=hG
          have HM3:Hid (Mid blk off n w0 a b d a' b' d3 wc):=hM3
          clear hM3 hG
          have hpn:p<n:=by omega
          by_cases ha0:0<a'
          · have ha0z:(0:Int)<(a':Int):=by omega
            have han:a'-1<n:=by omega
            go_wp2_with fail
            go_quiet (first|(go_at_call 137;refine Calls.quiet_of_same (Less_any _ _ _)))
            have HM4:Hid (Mid blk off n w0 a b d a' b' d3 (wc.drewN nq)):=HM3.out.same (HM3.out.at_.drewN _)
            cases hlt:ltInt (G (a'-1)) (G p)
            · go_wp2_with (go_at_call 138;refine(partitionEqual_any blk off cap a' b' p n d3 w0 _ HM4.out.at_ hp1 hp2 hbn' hsz).mono ?_;rintro e w5 ⟨rfl,hw5⟩)
              obtain⟨q1,q2,hq⟩:=HM4.out.eqs ha0 hp1 hp2 (by rw[←HG.out,←HG.out,hlt]) hw5
              go_roundw
              case rel=>exact⟨_,b',l1,wb,wp,_,rfl,rfl,rfl,rfl,rfl,by omega,hl1,hq⟩
              case measure=>simp[intOf];omega
            · skip
              obtain⟨m,hm⟩:∃m,(partition ltInt d3 a' b' p).1=m:=⟨_,rfl⟩
              obtain⟨d4,hd4⟩:∃d4,(partition ltInt d3 a' b' p).2.2=d4:=⟨_,rfl⟩
              have hP:=HM4.out.parts hp1 hp2
              have hc:=fun w hA=>partition_any blk off cap a' b' p n d3 w0 w hA hp1 hp2 hbn' hsz
              rw[hm,hd4]at hP hc
              have HC:Hid (∀w,At blk off w0 w n d3→Calls Tryz.prog 139 #[.slice (some ⟨blk,off,none⟩) n cap,.int .i64 a',.int .i64 b',.int .i64 p] w fun e w'=>∃ap:Bool,e = .returned (.tuple #[.int .i64 m,.bool ap])∧At blk off w0 w' n d4):=hc
              have HP:Hid (Parts blk off n w0 a b d a' b' m d4):=hP
              have hm1:=hP.lo
              have hm2:=hP.hi
              clear hc hP hm hd4
              obtain⟨mm,hmm⟩:∃mm,m+1=mm:=⟨_,rfl⟩
              have hmmi:(m:Int)+1=(mm:Int):=by omega
              have HMM:Hid (m+1=mm):=hmm
              clear hmm
              go_upto_if 113 with(go_at_call 139;refine(HC.out _ HM4.out.at_).mono ?_;rintro e w5 ⟨ap,rfl,hw5⟩)
              have HW5:Hid (At blk off w0 w5 n d4):=hw5
              clear hw5
              by_cases hlr:(m:Int)-(a':Int)<(b':Int)-(m:Int)
              · go_wp2_with (go_at_call 120;refine(HIH.out a' m l1 d4 _ (by omega) HW5.out hm1 (by omega) hl1 HP.out.bl).mono ?_;rintro e w6 ⟨rfl,L,hL1,hL2,hL3⟩)
                go_roundw
                case rel=>exact⟨mm,b',l1,_,_,L,rfl,rfl,rfl,rfl,rfl,by have:=HMM.out;omega,hl1,by rw[←HMM.out];exact HP.out.left L _ hL1 hL2 hL3⟩
                case measure=>simp[intOf];have:=HMM.out;omega
              · go_wp2_with (go_at_call 120;refine(HIH.out mm b' l1 d4 _ (by have:=HMM.out;omega) HW5.out (by have:=HMM.out;omega) (by omega) hl1 (by rw[←HMM.out];exact HP.out.br)).mono ?_;rintro e w6 ⟨rfl,L,hL1,hL2,hL3⟩)
                go_roundw
                case rel=>exact⟨a',m,l1,_,_,L,rfl,rfl,rfl,rfl,rfl,by omega,hl1,HP.out.right L _ (by rw[HMM.out];exact hL1) (by rw[HMM.out];exact hL2) hL3⟩
                case measure=>simp[intOf];omega
          · have ha0z:decide ((0:Int)<(a':Int))=false:=by simp;omega
            go_wp2_with fail
            go_quiet (first|(go_at_call 137;refine Calls.quiet_of_same (Less_any _ _ _)))
            have HM4:Hid (Mid blk off n w0 a b d a' b' d3 (wc.drewN nq)):=HM3.out.same (HM3.out.at_.drewN _)
            obtain⟨m,hm⟩:∃m,(partition ltInt d3 a' b' p).1=m:=⟨_,rfl⟩
            obtain⟨d4,hd4⟩:∃d4,(partition ltInt d3 a' b' p).2.2=d4:=⟨_,rfl⟩
            have hP:=HM4.out.parts hp1 hp2
            have hc:=fun w hA=>partition_any blk off cap a' b' p n d3 w0 w hA hp1 hp2 hbn' hsz
            rw[hm,hd4]at hP hc
            have HC:Hid (∀w,At blk off w0 w n d3→Calls Tryz.prog 139 #[.slice (some ⟨blk,off,none⟩) n cap,.int .i64 a',.int .i64 b',.int .i64 p] w fun e w'=>∃ap:Bool,e = .returned (.tuple #[.int .i64 m,.bool ap])∧At blk off w0 w' n d4):=hc
            have HP:Hid (Parts blk off n w0 a b d a' b' m d4):=hP
            have hm1:=hP.lo
            have hm2:=hP.hi
            clear hc hP hm hd4
            obtain⟨mm,hmm⟩:∃mm,m+1=mm:=⟨_,rfl⟩
            have hmmi:(m:Int)+1=(mm:Int):=by omega
            have HMM:Hid (m+1=mm):=hmm
            clear hmm
            go_upto_if 113 with(go_at_call 139;refine(HC.out _ HM4.out.at_).mono ?_;rintro e w5 ⟨ap,rfl,hw5⟩)
            have HW5:Hid (At blk off w0 w5 n d4):=hw5
            clear hw5
            by_cases hlr:(m:Int)-(a':Int)<(b':Int)-(m:Int)
            · go_wp2_with (go_at_call 120;refine(HIH.out a' m l1 d4 _ (by omega) HW5.out hm1 (by omega) hl1 HP.out.bl).mono ?_;rintro e w6 ⟨rfl,L,hL1,hL2,hL3⟩)
              go_roundw
              case rel=>exact⟨mm,b',l1,_,_,L,rfl,rfl,rfl,rfl,rfl,by have:=HMM.out;omega,hl1,by rw[←HMM.out];exact HP.out.left L _ hL1 hL2 hL3⟩
              case measure=>simp[intOf];have:=HMM.out;omega
            · go_wp2_with (go_at_call 120;refine(HIH.out mm b' l1 d4 _ (by have:=HMM.out;omega) HW5.out (by have:=HMM.out;omega) (by omega) hl1 (by rw[←HMM.out];exact HP.out.br)).mono ?_;rintro e w6 ⟨rfl,L,hL1,hL2,hL3⟩)
              go_roundw
              case rel=>exact⟨a',m,l1,_,_,L,rfl,rfl,rfl,rfl,rfl,by omega,hl1,HP.out.right L _ (by rw[HMM.out];exact hL1) (by rw[HMM.out];exact hL2) hL3⟩
              case measure=>simp[intOf];omega
end SrtI
end Go.Proofs.YthecngkdmnadoaaGreat

namespace Go.Proofs.YthecngkdmnadoaaGreat
open Go.RowKit Go.Sort
set_option maxRecDepth 100000
namespace SrtI
def sorted(xs:List Int):List Int:=xs.mergeSort (fun x y=>decide (x≤y))
theorem sorts_sorted{blk off n:Nat}{d:Array Int}{w0 w w':World}{e:Ending}(hA:At blk off w0 w n d)(h:Sorts blk off n 0 n d w0 e w'):e = .returned (.tuple #[])∧At blk off w0 w' n (sorted d.toList).toArray:=by
 obtain⟨h1,R,h2,h3,h4⟩:=h;refine⟨h1,?_⟩;have hs:=hA.size;subst hs;have hu:=sorted_unique_holds swo_ltInt (fun x y h1 h2=>by simp only[ltInt,decide_eq_false_iff_not]at h1 h2;omega) d R h2 h3;have hf:(fun x y:Int=>!ltInt y x)=(fun x y=>decide (x≤y)):=by
  funext x y;by_cases hxy:x≤y
  · have:¬y<x:=by omega
    simp[ltInt,hxy,this]
  · have:y<x:=by omega
    simp[ltInt,hxy,this]
 rw[hf]at hu;have:R=(sorted d.toList).toArray:=by
  apply Array.ext';rw[hu];rfl
 rw[←this];exact h4
set_option maxHeartbeats 4000000 in
theorem Sort_any(blk off cap n:Nat)(d:Array Int)(w0 w:World)(hA:At blk off w0 w n d)(hlow:blk<w0.heap.size)(hsz:n<2305843009213693952):
 Calls Tryz.prog 94 #[.slice (some ⟨blk,off,none⟩) n cap] w fun e w'=>e = .returned (.tuple #[])∧At blk off w0 w' n (sorted d.toList).toArray:=by
 have HA:Hid (At blk off w0 w n d):=hA;have hLen:∀w,Calls Tryz.prog 82 #[.int .u64 (n:Int)] w fun e w'=>e = .returned (.int .i64 (bitsLen n:Nat))∧w'=w:=fun w=>by
  have h:=bits_Len (n:Int) w (by omega) (by omega)
  rwa [Int.toNat_natCast,bitLen_eq _ (by omega)]at h
 have HL:Hid (∀w,Calls Tryz.prog 82 #[.int .u64 (n:Int)] w fun e w'=>e = .returned (.int .i64 (bitsLen n:Nat))∧w'=w):=hLen;have hk:bitsLen n≤62:=(bitsLen_le_iff n 62).2 (by omega)
 have HP:Hid (Calls Tryz.prog 120 #[.slice (some ⟨blk,off,none⟩) n cap,.int .i64 ((0:Nat):Int),.int .i64 (n:Int),.int .i64 (bitsLen n:Nat)] w (Sorts blk off n 0 n d w0)):=
  pdq_any n blk off cap 0 n n (bitsLen n) d w0 w (by omega) hA hlow (Nat.zero_le _) (Nat.le_refl _) hsz (by omega) (.inl rfl)
 clear hA hLen;go_enter Tryz.func94,Tryz.ntmps94;go_wp2_with (first|(go_at_call 82;refine(HL.out _).mono ?_;rintro e w' ⟨rfl,rfl⟩)|(go_at_call 120;refine HP.out.mono ?_;rintro e w' hS;obtain⟨rfl,hA'⟩:=sorts_sorted HA.out hS))
 go_end0
 exact⟨rfl,hA'⟩
set_option maxHeartbeats 4000000 in
theorem insertion_nil(w:World):Calls Tryz.prog 131 #[.slice none 0 0,.int .i64 0,.int .i64 0] w fun e w'=>e = .returned (.tuple #[])∧w'=w:=by
 go_enter Tryz.func131,Tryz.ntmps131;go_wp2;refine wp_loop_rounds 1 ?_;rw[rounds_succ];go_wp2
 go_end0
 exact⟨rfl,rfl⟩
set_option maxHeartbeats 4000000 in
theorem pdq_nil(w:World):Calls Tryz.prog 120 #[.slice none 0 0,.int .i64 0,.int .i64 0,.int .i64 0] w fun e w'=>e = .returned (.tuple #[])∧w'=w:=by
 go_enter Tryz.func120,Tryz.ntmps120;go_wp2;refine wp_loop_rounds 1 ?_;rw[rounds_succ];go_wp2_with (go_at_call 131;refine(insertion_nil _).mono ?_;rintro e w' ⟨rfl,rfl⟩);go_returns;exact⟨rfl,rfl⟩
set_option maxHeartbeats 4000000 in
theorem Sort_nil(w:World):Calls Tryz.prog 94 #[.slice none 0 0] w fun e w'=>e = .returned (.tuple #[])∧w'=w:=by
 have hLen:∀w,Calls Tryz.prog 82 #[.int .u64 0] w fun e w'=>e = .returned (.int .i64 0)∧w'=w:=fun w=>bits_Len 0 w (by omega) (by omega)
 go_enter Tryz.func94,Tryz.ntmps94;go_wp2_with (first|(go_at_call 82;refine(hLen _).mono ?_;rintro e w' ⟨rfl,rfl⟩)|(go_at_call 120;refine(pdq_nil _).mono ?_;rintro e w' ⟨rfl,rfl⟩))
 go_end0
 exact⟨rfl,rfl⟩
end SrtI
end Go.Proofs.YthecngkdmnadoaaGreat

namespace Go.Proofs.YthecngkdmnadoaaGreat
open Go.RowKit Go.Shelf
set_option maxRecDepth 100000
attribute [local go_sem] Oper.semAt_some
namespace SrtI
theorem infoE:(Tryz.prog.info? 3).map (fun i=>(i.zero,i.size,i.bytes))=some (some (.int .i64 0),1,8):=by kernel_rfl
set_option maxHeartbeats 4000000 in
theorem appendSeq_in(F:Fence)(n:Nat)(hf:F.fn 119)(hro:F.round=none)(hn:3≤n)(g:Nat)(lb:Array Value)(hFg:F.fn g)(eg:∀args w,(callFunc g args).run Tryz.prog w = .ok (.enter g args) w)
 {S Sp:List Int→Prop} {N:Nat} (w:World) (hseq:SeqStopsK F (n-1) Tryz.prog g lb (fun x:Int=>#[.int .i64 x]) KeepsWalks S Sp N w) (hN:N<1099511627776):
 CallsIn F n Tryz.prog 119 #[.slice none 0 0,.func (.func g) #[] lb] w fun e w'=>∃v xs,e = .returned v∧S xs∧w'.ownsRow w.heap.size 3 1 v xs.length (xs.map (Value.int .i64))∧(v = .slice none 0 0↔xs=[])∧Below w.heap.size w w':=by
 have h1:1≤n:=by omega
 obtain⟨i0,hi,hz0,hz1,hz2⟩:=info_parts infoE;refine callsIn_of_wp_marks Tryz.func119 rfl hf ?_ hro;simp only[Tryz.ntmps119,List.size_toArray,List.length_cons,List.length_nil,Nat.reduceAdd,Nat.reduceSub,Array.replicate_succ,Array.replicate_zero,List.push_toArray,List.append_toArray,List.nil_append,List.cons_append]
 gi_wp2
 refine wpIn_rangeFunc_ownF (α:=Int) hro h1 (gf:=g) (lb:=lb) rfl hFg eg (encs:=fun x=>#[.int .i64 x]) (Kp:=KeepsWalks) (w0:=w) hseq (fun h k=>walksK_t h k) walksK_b ((Below.refl _ w).alloc (Nat.le_refl _) _) (fun _=>rfl)
  (fun pre W=>(∃v,Boxed W w.heap.size 47 v∧W.ownsRow w.heap.size 3 1 v pre.length (pre.map (Value.int .i64))∧(v = .slice none 0 0↔pre=[]))∧Below w.heap.size w W)
  (fun _ _ _=>False)
  (OwnFrom.and (Own.from (holdsRow_own w.heap.size w.heap.size 47 3 1 (fun pre:List Int=>pre.length) (fun pre=>pre.map (Value.int .i64)) (fun pre v=>v = .slice none 0 0↔pre=[])) _) (ownFrom_below (Nat.le_refl _) (by simp)))
  (fun _ _ _ _ _ hs _ _=>hs)
  ⟨⟨.slice none 0 0,Boxed.new w _ _,World.ownsRow_nil _ _ _ _,by simp⟩,(Below.refl _ w).alloc (Nat.le_refl _) _⟩
  (fun x=>{ tmps:=#[.slice none 0 0,.func (.func g) #[] lb,.pointer (some ⟨w.heap.size,0,none⟩),undef,.slice none 0 0,.int .i64 x,.func (.func g) #[] lb,.int .i64 x,undef,undef,undef,undef,undef],defers:=[] }) ?assign ?body ?done ?stop
 case assign=>
  intro l x W K hK
  gi_wp2
  exact hK
 case body=>
  rintro l pre x W ⟨⟨v,hv,hrow,hnil⟩,hB⟩ hlt;have hc:=hv.cell
  gi_wp2_with (first|(gi_at_builtin;refine wpListIn_append_own _ rfl _ _ 47 rfl w.heap.size 3 i0 (.int .i64 0) 1 8 Tryz.underlying47 hi hz0 hz1 hz2 rfl (by decide) _ _ _ rfl (hrow.alloc _) ⟨W.heap.size,0,none⟩ 1 1 [.int .i64 x] rfl rfl (cell_one_new _ _ _) (by simp[Value.oneCell']) (by simp only[maxLen];omega) (by omega) (by have:=hB.size;simp;omega) ?_;intro v' w1 hown' hgrow _;obtain⟨g',cap',rfl⟩:=ownsRow_succ hown';obtain⟨hv1,hv2,hr2,hk2,hb2⟩:=hv.appended (by decide) hrow hB.size (Nat.le_refl _) hown' hgrow;have hc1:=hv1.cell;have hf1:=hv1.frozen)|gi_in)
  exact⟨hk2,hk2.walks,⟨_,hv2,by simpa using hr2,by simp⟩,hB.trans hb2⟩
 case done=>
  rintro D xs W hD hS ⟨⟨v,hv,hrow,hnil⟩,hB⟩ hK;have hc:=hv.cell
  gi_wp2
  refine⟨by simp,.inl ⟨_,_,rfl,run_takeDeferred hK,?_⟩⟩;exact⟨_,results_tmp rfl _ _ _,v,xs,rfl,hS,ownsRow_putObj hrow _ hK rfl,hnil,hB.trans (belowK_b (w:=w) (Nat.le_refl _) W D _ _ (by simp at hD;omega) hK rfl rfl)⟩
 case stop=>
  rintro D c pre W _ _ h _;exact h.elim
set_option maxHeartbeats 2000000 in
theorem collect_in(F:Fence)(n:Nat)(hf:F.fn 93)(hf2:F.fn 119)(hro:F.round=none)(hn:4≤n)(g:Nat)(lb:Array Value)(hFg:F.fn g)(eg:∀args w,(callFunc g args).run Tryz.prog w = .ok (.enter g args) w)
 {S Sp:List Int→Prop} {N:Nat} (w:World) (hseq:SeqStopsK F (n-1-1) Tryz.prog g lb (fun x:Int=>#[.int .i64 x]) KeepsWalks S Sp N w) (hN:N<1099511627776):
 CallsIn F n Tryz.prog 93 #[.func (.func g) #[] lb] w fun e w'=>∃v xs,e = .returned v∧S xs∧w'.ownsRow w.heap.size 3 1 v xs.length (xs.map (Value.int .i64))∧(v = .slice none 0 0↔xs=[])∧Below w.heap.size w w':=by
 have hn1:1≤n:=by omega
 have HC:=appendSeq_in F (n-1) hf2 hro (by omega) g lb hFg eg w hseq hN;refine callsIn_of_wp Tryz.func93 rfl hf ?_ hro;simp only[Tryz.ntmps93,List.size_toArray,List.length_cons,List.length_nil,Nat.reduceAdd,Nat.reduceSub,Array.replicate_succ,Array.replicate_zero,List.push_toArray,List.append_toArray,List.nil_append,List.cons_append]
 gi_wp2_with (gi_at_call 119;refine HC.mono ?_;rintro e w' ⟨v,xs,rfl,h1,h2,h3,h4⟩)
 go_ret;exact⟨v,xs,rfl,h1,h2,h3,h4⟩
theorem Collect_any(g:Nat)(lb:Array Value)(eg:∀args w,(callFunc g args).run Tryz.prog w = .ok (.enter g args) w){S Sp:List Int→Prop}{N:Nat}(w:World)
 (hseq:SeqStopsK Fence.wide 2 Tryz.prog g lb (fun x:Int=>#[.int .i64 x]) KeepsWalks S Sp N w) (hN:N<1099511627776):
 Calls Tryz.prog 93 #[.func (.func g) #[] lb] w fun e w'=>∃v xs,e = .returned v∧S xs∧w'.ownsRow w.heap.size 3 1 v xs.length (xs.map (Value.int .i64))∧(v = .slice none 0 0↔xs=[])∧Below w.heap.size w w':=
 (callsIn_wide (n:=4)).1 (collect_in Fence.wide 4 trivial trivial rfl (by omega) g lb trivial eg w hseq hN)
end SrtI
end Go.Proofs.YthecngkdmnadoaaGreat

namespace Go.Proofs.YthecngkdmnadoaaGreat
open Go.RowKit Go.Sort Go.Shelf
set_option maxRecDepth 100000
namespace SrtI
theorem row_at{w:World}{g:Nat}{e:TypeId}{cur:Array Value}{xs:List Int}(hb:w.heap[g]?=some (.cells cur e (0,0)))(ht:cur.toList.take xs.length=xs.map (Value.int .i64)):At g 0 w w xs.length xs.toArray:=by
 refine⟨fun j hj=>?_,by simp,RStep.refl _ _ _ _⟩;have hj':j<xs.length:=by simpa using hj
 have h1:cur[j]?=some (.int .i64 xs[j]):=by
  have:(cur.toList.take xs.length)[j]?=(xs.map (Value.int .i64))[j]?:=by rw[ht]
  rw[List.getElem?_take,if_pos hj',List.getElem?_map,List.getElem?_eq_getElem hj']at this;simpa using this
 constructor
 · simp[World.cell?,hb,h1,hj']
 · simp[World.frozen?,hb]
theorem at_row{w0 w:World}{base g cap:Nat}{e:TypeId}{cur:Array Value}{xs:List Int}{n:Nat}(hb:w0.heap[g]?=some (.cells cur e (0,0)))(hA:At g 0 w0 w n xs.toArray)(hbase:base≤g)(h1:n≤cap)(h2:cap≤maxLen)(h3:cur.size=cap*1):
 w.ownsRow base e 1 (.slice (some ⟨g,0,none⟩) n cap) n (xs.map (Value.int .i64)):=by
 obtain⟨c',k1,k2,k3⟩:=hA.step.own cur e (0,0) hb;have hn:xs.length=n:=by simpa using hA.size
 refine⟨by simp[hn],.inr ⟨g,cap,c',rfl,hbase,k1,h1,h2,by rw[k2];exact h3,?_⟩⟩;apply List.ext_getElem?;intro j;rw[List.getElem?_take,Nat.mul_one,List.getElem?_map];by_cases hj:j<n
 · rw[if_pos hj,List.getElem?_eq_getElem (by omega:j<xs.length)]
   have:=(hA.holds j (by simpa[hn]using hj)).1;simp[World.cell?,k1,show j<xs.length by omega]at this;simpa using this
 · rw[if_neg hj,List.getElem?_eq_none (by omega)]
   rfl
theorem sorted_length(xs:List Int):(sorted xs).length=xs.length:=List.length_mergeSort _
set_option maxHeartbeats 4000000 in
theorem Sorted_any(g:Nat)(lb:Array Value)(eg:∀args w,(callFunc g args).run Tryz.prog w = .ok (.enter g args) w){S Sp:List Int→Prop}{N:Nat}(w:World)
 (hseq:SeqStopsK Fence.wide 2 Tryz.prog g lb (fun x:Int=>#[.int .i64 x]) KeepsWalks S Sp N w) (hN:N<1099511627776) (hS:∀xs,S xs→xs.length≤N):
 Calls Tryz.prog 71 #[.func (.func g) #[] lb] w fun e w'=>∃v xs,e = .returned v∧S xs∧w'.ownsRow w.heap.size 3 1 v xs.length ((sorted xs).map (Value.int .i64))∧(v = .slice none 0 0↔xs=[])∧Below w.heap.size w w':=by
 have HC:Hid (Calls Tryz.prog 93 #[.func (.func g) #[] lb] w fun e w'=>∃v xs,e = .returned v∧S xs∧w'.ownsRow w.heap.size 3 1 v xs.length (xs.map (Value.int .i64))∧(v = .slice none 0 0↔xs=[])∧Below w.heap.size w w'):=Collect_any g lb eg w hseq hN;have HS:Hid (∀xs,S xs→xs.length≤N):=hS;clear hseq hS;go_enter Tryz.func71,Tryz.ntmps71;go_wp2_with (go_at_call 93;refine HC.out.mono ?_;rintro e w1 ⟨v,xs,rfl,h1,h2,h3,h4⟩);have hl:xs.length≤N:=HS.out xs h1;obtain⟨hr1,hr2⟩:=h2;rcases hr2 with⟨rfl,hn0⟩|⟨b,cap,cur,rfl,hb1,hb2,hb3,hb4,hb5,hb6⟩
 · have hx:xs=[]:=h3.1 rfl
   subst hx;go_wp2_with (go_at_call 94;refine(Sort_nil _).mono ?_;rintro e w2 ⟨rfl,rfl⟩);go_ret;exact⟨_,[],rfl,h1,⟨by simp[sorted],.inl ⟨rfl,rfl⟩⟩,by simp,h4⟩
 · have hA:=row_at hb2 (by simpa using hb6)
   have HA:Hid (Calls Tryz.prog 94 #[.slice (some ⟨b,0,none⟩) xs.length cap] w1 fun e w'=>e = .returned (.tuple #[])∧At b 0 w1 w' xs.length (sorted xs).toArray):=by
    have:=Sort_any b 0 cap xs.length xs.toArray w1 w1 hA (Array.getElem?_eq_some_iff.1 hb2).1 (by omega);show Calls _ _ _ _ _;simpa using this
   clear hA;have HR:Hid (Below w.heap.size w w1∧w1.heap[b]?=some (.cells cur 3 (0,0))∧w.heap.size≤b∧xs.length≤cap∧cap≤maxLen∧cur.size=cap*1):=⟨h4,hb2,hb1,hb3,hb4,hb5⟩;clear h4 hb2 hb3 hb4 hb5 hb6 hr1;go_wp2_with (go_at_call 94;refine HA.out.mono ?_;rintro e w2 ⟨rfl,hA2⟩);go_ret;obtain⟨r1,r2,r3,r4,r5,r6⟩:=HR.out;refine⟨_,xs,rfl,h1,at_row r2 hA2 r3 r4 r5 r6,h3,?_⟩;exact⟨hA2.step.os.trans r1.os,hA2.step.tape.trans r1.tape,hA2.step.output.trans r1.output,Nat.le_trans r1.size hA2.step.size,fun k hk=>(hA2.step.block k (Nat.lt_of_lt_of_le hk r1.size) (by omega)).trans (r1.block k hk)⟩
end SrtI
end Go.Proofs.YthecngkdmnadoaaGreat
