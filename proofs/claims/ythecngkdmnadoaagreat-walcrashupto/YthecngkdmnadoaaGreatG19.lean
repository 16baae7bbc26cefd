/- Texts that were written apart, joined. -/
import Derived.Test.YthecngkdmnadoaaGreatG18
import Derived.Laws.Bits64b
import Derived.Deep.Cut
import Derived.Deep.CutRange
namespace Go.Proofs.YthecngkdmnadoaaGreat
open Go.RowKit Go.Sort
set_option maxRecDepth 100000
namespace SrtU
theorem Pr.swap{blk off n sb:Nat}{w0 w:World}{d:Array Int}(h:Pr blk off w0 w n d sb){i j:Nat}(hi:i<n)(hj:j<n):
 Pr blk off w0 ((w.drew.setCell ⟨blk,off+i,none⟩ (enc d[j]!)).setCell ⟨blk,off+j,none⟩ (enc d[i]!)) n (swp d i j) sb:=by
 have hne:sb≠blk:=by have:=h.low;have:=h.own;omega
 obtain⟨v,hv,hc⟩:=h.cell;refine⟨(h.at_.drew).swap hi hj,h.low,h.own,⟨v,hv,?_⟩,?_⟩
 · rw[World.cell?_of_block (w:=w) (a:=⟨sb,0,none⟩) (by
    show((w.drew.setCell ⟨blk,off+i,none⟩ (enc d[j]!)).setCell ⟨blk,off+j,none⟩ (enc d[i]!)).heap[sb]?=w.heap[sb]?;rw[Below.heap_setCell _ _ _ _ hne,Below.heap_setCell _ _ _ _ hne];rfl)]
   exact hc
 · rw[World.frozen?_of_block (w:=w) (a:=⟨sb,0,none⟩) (by
    show((w.drew.setCell ⟨blk,off+i,none⟩ (enc d[j]!)).setCell ⟨blk,off+j,none⟩ (enc d[i]!)).heap[sb]?=w.heap[sb]?;rw[Below.heap_setCell _ _ _ _ hne,Below.heap_setCell _ _ _ _ hne];rfl)]
   exact h.free
theorem andU(x M:Nat)(hx:x<18446744073709551616)(h0:0<M)(hM:M<9223372036854775808):∃A:Nat,A<M∧bits .and .u64 (x:Int) ((M:Int)-1)=(A:Int):=
 ⟨x &&& (M-1),by have:=Nat.and_le_right (n:=x) (m:=M-1);omega,by rw[show((M:Int)-1)=((M-1:Nat):Int)by omega,bits_and_u64_nat _ _ hx (by omega)]⟩
set_option maxHeartbeats 8000000 in
theorem breakPatterns_any(blk off cap a b n:Nat)(d:Array Int)(w0 w:World)(hA:At blk off w0 w n d)(hlow:blk<w0.heap.size)(hab:a+12<b)(hb:b≤n)(hsz:n<2305843009213693952):
 Calls Tryz.prog 106 #[.slice (some ⟨blk,off,none⟩) n cap,.int .i64 a,.int .i64 b] w fun e w'=>
  e = .returned (.tuple #[])∧∃d',PermIn a b d d'∧At blk off w0 w' n d':=by
 obtain⟨l,hl⟩:∃l,b-a=l:=⟨_,rfl⟩;obtain⟨q,hq⟩:∃q,l/4=q:=⟨_,rfl⟩;obtain⟨m,hm⟩:∃m,a+q*2=m:=⟨_,rfl⟩;have hli:(b:Int)-(a:Int)=(l:Int):=by omega
 have hqi:(l:Int).tdiv 4=(q:Int):=by rw[Int.tdiv_eq_ediv_of_nonneg (by omega)];omega
 have hmi:(a:Int)+(q:Int)*2=(m:Int):=by omega
 have hl8:(8:Int)≤(l:Int):=by omega
 have hal:a+l=b:=by omega
 have m1:a+1≤m:=by omega
 have m2:m+1<b:=by omega
 have hl0:0<l:=by omega
 have hln:l<2305843009213693952:=by omega
 have HP:Hid (Pr blk off w0 (w.alloc (.cells #[.int .u64 l] 177)) n d w.heap.size):=
  ⟨hA.alloc hlow _,hlow,hA.step.size,⟨l,by omega,by go_simp⟩,by go_simp⟩
 have hds:d.size=n:=hA.size;clear hl hq hm hA;have HDS:Hid (d.size=n):=hds;clear hds;go_enter Tryz.func106,Tryz.ntmps106;go_wp2_with (go_at_call 125;refine(nextPower_any l hl0 (by omega) _).mono ?_;rintro e w' ⟨M,rfl,rfl,hM1,hM2⟩);have hM0:0<M:=by omega
 have hM3:M<4611686018427387904:=by omega
 have HM:Hid (M≤2*l):=hM2;clear hM2
 go_loopw [9] (fun vi wr=>∃(t:Nat) (dk:Array Int),vi = .int .i64 t∧m≤t+1∧t≤m+2∧Pr blk off w0 wr n dk w.heap.size∧PermIn a b d dk) (fun vi _=>(m+2-(intOf vi).toNat))
 case atStart=>exact⟨m-1,d,by congr 1;omega,by omega,by omega,HP.out,permIn_refl d a b⟩
 case round=>
  obtain⟨t,dk,rfl,ht1,ht2,hP1,hp⟩:=hrel;have HP1:Hid (Pr blk off w0 wr n dk w.heap.size):=hP1;have Hp:Hid (PermIn a b d dk):=hp;clear hP1 hp HP;by_cases ht:t≤m+1
  · have hti:(t:Int)≤(m:Int)+1:=by omega
    (have htn:t<n:=by omega);go_wp2_with (go_at_call 126;refine(Next_any blk off n w.heap.size dk w0 _ HP1.out).mono ?_;rintro e w' ⟨x,hx,rfl,hP2⟩;obtain⟨o,ho,hoe⟩:=andU x M hx hM0 (by omega);have ho2:o<4611686018427387904:=by omega)
    · have hlo:l≤o:=by omega
      obtain⟨y,hy⟩:∃y,a+(o-l)=y:=⟨_,rfl⟩;(have hyi:(a:Int)+((o:Int)-(l:Int))=(y:Int):=by omega);(have hyb:y<b:=by have:=HM.out;omega);(have hay:a≤y:=by omega);(have hyn:y<n:=by omega);obtain⟨G,hG,hcw,hfw⟩:=hP2.at_.fam;have HG:Hid (∀t,G t=dk[t]!):=hG;have HP3:Hid (Pr blk off w0 ((w'.drew.setCell ⟨blk,off+t,none⟩ (enc dk[y]!)).setCell ⟨blk,off+y,none⟩ (enc dk[t]!)) n (swp dk t y) w.heap.size):=hP2.swap htn hyn;have HQ:Hid (PermIn a b d (swp dk t y)):=permIn_trans _ _ _ a b Hp.out (swp_permIn dk a b t y (by omega) (by omega) hay hyb (by rw[hP2.at_.size];exact hb));clear hG hP2 hy;by_cases hty:t=y
      · subst hty
        go_region
        all_goals go_wp2
        go_roundw
        case rel=>
         exact⟨t+1,_,by go_num,by omega,by omega,(by simp only[HG.out];exact HP3.out),HQ.out⟩
        case measure=>simp[intOf];omega
      · go_region
        all_goals go_wp2
        go_roundw
        case rel=>
         exact⟨t+1,_,by go_num,by omega,by omega,(by simp only[HG.out];exact HP3.out),HQ.out⟩
        case measure=>simp[intOf];omega
    · have hlo:o<l:=by omega
      obtain⟨y,hy⟩:∃y,a+o=y:=⟨_,rfl⟩;(have hyi:(a:Int)+(o:Int)=(y:Int):=by omega);(have hyb:y<b:=by omega);(have hay:a≤y:=by omega);(have hyn:y<n:=by omega);obtain⟨G,hG,hcw,hfw⟩:=hP2.at_.fam;have HG:Hid (∀t,G t=dk[t]!):=hG;have HP3:Hid (Pr blk off w0 ((w'.drew.setCell ⟨blk,off+t,none⟩ (enc dk[y]!)).setCell ⟨blk,off+y,none⟩ (enc dk[t]!)) n (swp dk t y) w.heap.size):=hP2.swap htn hyn;have HQ:Hid (PermIn a b d (swp dk t y)):=permIn_trans _ _ _ a b Hp.out (swp_permIn dk a b t y (by omega) (by omega) hay hyb (by rw[hP2.at_.size];exact hb));clear hG hP2 hy;by_cases hty:t=y
      · subst hty
        go_region
        all_goals go_wp2
        go_roundw
        case rel=>
         exact⟨t+1,_,by go_num,by omega,by omega,(by simp only[HG.out];exact HP3.out),HQ.out⟩
        case measure=>simp[intOf];omega
      · go_region
        all_goals go_wp2
        go_roundw
        case rel=>
         exact⟨t+1,_,by go_num,by omega,by omega,(by simp only[HG.out];exact HP3.out),HQ.out⟩
        case measure=>simp[intOf];omega
  · go_wp2
    go_end0
    exact⟨rfl,dk,Hp.out,HP1.out.at_⟩
end SrtU
end Go.Proofs.YthecngkdmnadoaaGreat

namespace Go.Proofs.YthecngkdmnadoaaGreat
open Go.RowKit Go.Sort
set_option maxRecDepth 100000
namespace SrtU
theorem insertionSort_at{blk off cap a b n:Nat}{d:Array Int}{w0 w:World}(hA:At blk off w0 w n d)(hab:a≤b)(hb:b≤n)(hsz:n<2305843009213693952):
 Calls Tryz.prog 104 #[.slice (some ⟨blk,off,none⟩) n cap,.int .i64 a,.int .i64 b] w fun e w'=>
  e = .returned (.tuple #[])∧At blk off w0 w' n (Sort.insertionSort ltInt d a b):=by
 obtain⟨h1,rfl,h3⟩:=hA
 exact(insertionSort_any blk off cap a b d w h1 hab hb (by omega)).mono fun e w' h=>⟨h.1,(At.mk h1 rfl h3).trans h.2⟩
theorem reverseRange_at{blk off cap a b n:Nat}{d:Array Int}{w0 w:World}(hA:At blk off w0 w n d)(hab:a<b)(hb:b≤n)(hsz:n<2305843009213693952):
 Calls Tryz.prog 108 #[.slice (some ⟨blk,off,none⟩) n cap,.int .i64 a,.int .i64 b] w fun e w'=>
  e = .returned (.tuple #[])∧At blk off w0 w' n (reverseRange d a b):=by
 obtain⟨h1,rfl,h3⟩:=hA
 exact(reverseRange_any blk off cap a b d w h1 hab hb (by omega)).mono fun e w' h=>⟨h.1,(At.mk h1 rfl h3).trans h.2⟩
structure Mid(blk off n:Nat)(w0:World)(a b:Nat)(d:Array Int)(a' b':Nat)(dk:Array Int)(wr:World):Prop where
 ab:a'≤b'
 bn:b'≤n
 below:Go.Sort.Below ltInt a' b' dk
 at_:At blk off w0 wr n dk
 then_:∀R,PermIn a' b' dk R→SortedIn ltInt a' b' R→PermIn a b d R∧SortedIn ltInt a b R
theorem Mid.sz{blk off n:Nat}{w0:World}{a b:Nat}{d:Array Int}{a' b':Nat}{dk:Array Int}{wr:World}(h:Mid blk off n w0 a b d a' b' dk wr):b'≤dk.size:=by rw[h.at_.size];exact h.bn
theorem Mid.step{blk off n:Nat}{w0:World}{a b:Nat}{d:Array Int}{a' b':Nat}{dk d2:Array Int}{wr w2:World}(h:Mid blk off n w0 a b d a' b' dk wr)(hp:PermIn a' b' dk d2)(hA:At blk off w0 w2 n d2):
 Mid blk off n w0 a b d a' b' d2 w2:=⟨h.ab,h.bn,h.below.perm h.sz hp,hA,fun R h1 h2=>h.then_ R (permIn_trans _ _ _ _ _ hp h1) h2⟩
theorem Mid.same{blk off n:Nat}{w0:World}{a b:Nat}{d:Array Int}{a' b':Nat}{dk:Array Int}{wr w2:World}(h:Mid blk off n w0 a b d a' b' dk wr)(hA:At blk off w0 w2 n dk):
 Mid blk off n w0 a b d a' b' dk w2:=h.step (permIn_refl _ _ _) hA
def Sorts(blk off n a b:Nat)(d:Array Int)(w0:World)(e:Ending)(w':World):Prop:=e = .returned (.tuple #[])∧∃R,PermIn a b d R∧SortedIn ltInt a b R∧At blk off w0 w' n R
theorem Mid.done{blk off n:Nat}{w0:World}{a b:Nat}{d:Array Int}{a' b':Nat}{dk d2:Array Int}{wr w2:World}(h:Mid blk off n w0 a b d a' b' dk wr)(hp:PermIn a' b' dk d2∧SortedIn ltInt a' b' d2)(hA:At blk off w0 w2 n d2):
 Sorts blk off n a b d w0 (.returned (.tuple #[])) w2:=⟨rfl,d2,(h.then_ d2 hp.1 hp.2).1,(h.then_ d2 hp.1 hp.2).2,hA⟩
theorem Mid.insert{blk off n:Nat}{w0:World}{a b:Nat}{d:Array Int}{a' b':Nat}{dk:Array Int}{wr w2:World}(h:Mid blk off n w0 a b d a' b' dk wr)(hA:At blk off w0 w2 n (Sort.insertionSort ltInt dk a' b')):
 Sorts blk off n a b d w0 (.returned (.tuple #[])) w2:=h.done (insertionSort_holds swo_ltInt dk a' b' h.ab h.sz) hA
theorem Mid.heap{blk off n:Nat}{w0:World}{a b:Nat}{d:Array Int}{a' b':Nat}{dk:Array Int}{wr w2:World}(h:Mid blk off n w0 a b d a' b' dk wr)(hA:At blk off w0 w2 n (heapSort ltInt dk a' b')):
 Sorts blk off n a b d w0 (.returned (.tuple #[])) w2:=h.done (heapSort_holds swo_ltInt dk a' b' h.ab h.sz) hA
theorem Mid.eqs{blk off n:Nat}{w0:World}{a b:Nat}{d:Array Int}{a' b' p:Nat}{dk:Array Int}{wr w2:World}(h:Mid blk off n w0 a b d a' b' dk wr)(ha:0<a')(hp1:a'≤p)(hp2:p<b')(hl:ltInt dk[a'-1]! dk[p]! = false)
 (hA:At blk off w0 w2 n (partitionEqual ltInt dk a' b' p).2):a'<(partitionEqual ltInt dk a' b' p).1∧(partitionEqual ltInt dk a' b' p).1≤b'∧Mid blk off n w0 a b d (partitionEqual ltInt dk a' b' p).1 b' (partitionEqual ltInt dk a' b' p).2 w2:=by
 obtain⟨h1,h2,h3,h4,h5⟩:=round_eq swo_ltInt (partitionEqual_holds ltInt) ha hp1 hp2 h.sz h.below hl (mid:=(partitionEqual ltInt dk a' b' p).1) (d4:=(partitionEqual ltInt dk a' b' p).2) rfl
 exact⟨h1,h2,⟨h2,h.bn,h4,hA,fun R r1 r2=>h.then_ R (h5 R r1 r2).1 (h5 R r1 r2).2⟩⟩
structure Parts(blk off n:Nat)(w0:World)(a b:Nat)(d:Array Int)(a' b' m:Nat)(d4:Array Int):Prop where
 lo:a'≤m
 hi:m<b'
 bn:b'≤n
 bl:Go.Sort.Below ltInt a' m d4
 br:Go.Sort.Below ltInt (m+1) b' d4
 left:∀L w2,PermIn a' m d4 L→SortedIn ltInt a' m L→At blk off w0 w2 n L→Mid blk off n w0 a b d (m+1) b' L w2
 right:∀L w2,PermIn (m+1) b' d4 L→SortedIn ltInt (m+1) b' L→At blk off w0 w2 n L→Mid blk off n w0 a b d a' m L w2
theorem Mid.parts{blk off n:Nat}{w0:World}{a b:Nat}{d:Array Int}{a' b' p:Nat}{dk:Array Int}{wr:World}(h:Mid blk off n w0 a b d a' b' dk wr)(hp1:a'≤p)(hp2:p<b'):
 Parts blk off n w0 a b d a' b' (partition ltInt dk a' b' p).1 (partition ltInt dk a' b' p).2.2:=by
 obtain⟨h1,h2,h3,h4,h5,h6,h7⟩:=round_part swo_ltInt (partition_holds ltInt) hp1 hp2 h.sz h.below (mid:=(partition ltInt dk a' b' p).1) (ap:=(partition ltInt dk a' b' p).2.1) (d4:=(partition ltInt dk a' b' p).2.2) rfl
 exact⟨h1,h2,h.bn,h4,h5,fun L w2 l1 l2 l3=>⟨by omega,h.bn,(h6 L l1 l2).1,l3,fun R r1 r2=>h.then_ R ((h6 L l1 l2).2 R r1 r2).1 ((h6 L l1 l2).2 R r1 r2).2⟩,
  fun L w2 l1 l2 l3=>⟨by omega,by have:=h.bn;omega,(h7 L l1 l2).1,l3,fun R r1 r2=>h.then_ R ((h7 L l1 l2).2 R r1 r2).1 ((h7 L l1 l2).2 R r1 r2).2⟩⟩
set_option maxHeartbeats 32000000 in
theorem pdq_any(N:Nat):∀(blk off cap a b n lim:Nat) (d:Array Int) (w0 w:World),b-a≤N→At blk off w0 w n d→blk<w0.heap.size→a≤b→b≤n→n<2305843009213693952→lim<4611686018427387904→Go.Sort.Below ltInt a b d →
 Calls Tryz.prog 81 #[.slice (some ⟨blk,off,none⟩) n cap,.int .i64 a,.int .i64 b,.int .i64 lim] w (Sorts blk off n a b d w0):=by
 induction N using Nat.strongRecOn with
 |_ N ih=>
 intro blk off cap a b n lim d w0 w hN hA hlow hab hb hsz hlim hBel
 have HIH:Hid (∀(a b lim:Nat) (d:Array Int) (w:World),b-a<N→At blk off w0 w n d→a≤b→b≤n→lim<4611686018427387904→Go.Sort.Below ltInt a b d →
  Calls Tryz.prog 81 #[.slice (some ⟨blk,off,none⟩) n cap,.int .i64 a,.int .i64 b,.int .i64 lim] w (Sorts blk off n a b d w0)):=
  fun a b lim d w h1 h2 h3 h4 h5 h6=>ih (b-a) h1 blk off cap a b n lim d w0 w (Nat.le_refl _) h2 hlow h3 h4 hsz h5 h6
 have HM:Hid (Mid blk off n w0 a b d a b d w):=⟨hab,hb,hBel,hA,fun R h1 h2=>⟨h1,h2⟩⟩
 clear ih hA hBel
 go_enter Tryz.func81,Tryz.ntmps81
 go_wp2
 go_loopw [1,2,3,8,9] (fun s1 s2 s3 s8 s9 wr=>∃(a' b' l:Nat) (wb wp:Bool) (dk:Array Int),s1 = .int .i64 a'∧s2 = .int .i64 b'∧s3 = .int .i64 l∧s8 = .bool wb∧s9 = .bool wp∧b'-a'≤N∧l<4611686018427387904∧Mid blk off n w0 a b d a' b' dk wr) (fun s1 s2 _ _ _ _=>(intOf s2-intOf s1).toNat)
 case atStart=>exact⟨a,b,lim,true,true,d,rfl,rfl,rfl,rfl,rfl,hN,hlim,HM.out⟩
 case round=>
  clear HM
  obtain⟨a',b',l,wb,wp,dk,rfl,rfl,rfl,rfl,rfl,hN',hl,hM⟩:=hrel
  have hab':=hM.ab
  have hbn':=hM.bn
  have HM:Hid (Mid blk off n w0 a b d a' b' dk wr):=hM
  clear hM
  by_cases h12:b'-a'≤12
  · have h12z:(b':Int)-(a':Int)≤12:=by omega
    go_wp2_with (go_at_call 104;refine(insertionSort_at HM.out.at_ hab' hbn' hsz).mono ?_;rintro e w1 ⟨rfl,hw1⟩)
    go_returns
    exact HM.out.insert hw1
  · have h12z:¬((b':Int)-(a':Int)≤12):=by omega
    by_cases hl0:l=0
    · subst hl0
      go_wp2_with (go_at_call 105;refine(heapSort_any blk off cap a' b' n dk w0 _ HM.out.at_ (by omega) hbn' hsz).mono ?_;rintro e w1 ⟨rfl,hw1⟩)
      go_returns
      exact HM.out.heap hw1
    · have hl0z:¬((l:Int)=0):=by omega
      go_upto_if 35 with fail
      go_cut [3]from 19 (fun s3 wc=>∃(l1:Nat) (d1:Array Int),s3 = .int .i64 l1∧l1<4611686018427387904∧Mid blk off n w0 a b d a' b' d1 wc)
      case first=>
       cases wb
       · go_wp2_with (go_at_call 106;refine(breakPatterns_any blk off cap a' b' n dk w0 _ HM.out.at_ hlow (by omega) hbn' hsz).mono ?_;rintro e w1 ⟨rfl,d1,hp1,hw1⟩)
         go_meet
         case rel=>exact⟨l-1,d1,by congr 1;omega,by omega,HM.out.step hp1 hw1⟩
       · go_wp2_with fail
         go_meet
         case rel=>exact⟨l,dk,rfl,hl,HM.out⟩
      case rest=>
       clear HM
       obtain⟨l1,d1,rfl,hl1,hM1⟩:=hcut
       have HM1:Hid (Mid blk off n w0 a b d a' b' d1 wc):=hM1
       clear hM1
       go_upto_if 50 with(go_at_call 107;refine(choosePivot_any blk off cap a' b' n d1 w0 _ HM1.out.at_ hlow (by omega) hbn' hsz).mono ?_;rintro e w2 ⟨p,h,rfl,hp1,hp2,hw2⟩)
       have HM2:Hid (Mid blk off n w0 a b d a' b' d1 w2):=HM1.out.same hw2
       clear hw2 HM1
       go_cut [11,12]from 19 (fun s11 s12 wc=>∃(p:Nat) (h:Int) (d2:Array Int),s11 = .int .i64 p∧s12 = .int .i64 h∧a'≤p∧p<b'∧Mid blk off n w0 a b d a' b' d2 wc)
       case first=>
        by_cases hh:h=2
        · subst hh
          go_wp2_with (go_at_call 108;refine(reverseRange_at HM2.out.at_ (by omega) hbn' hsz).mono ?_;rintro e w3 ⟨rfl,hw3⟩)
          go_meet
          case rel=>exact⟨(b'-1)-(p-a'),1,_,by congr 1;omega,rfl,by omega,by omega,HM2.out.step (reverseRange_holds d1 a' b' hab' HM2.out.sz) hw3⟩
        · have hhb:(h==2)=false:=by simp[hh]
          go_wp2_with fail
          go_meet
          case rel=>exact⟨p,h,d1,rfl,rfl,hp1,hp2,HM2.out⟩
       case rest=>
        clear HM2 hp1 hp2
        obtain⟨p,h,d2,rfl,rfl,hp1,hp2,hM2⟩:=hcut
        have HM2:Hid (Mid blk off n w0 a b d a' b' d2 wc):=hM2
        clear hM2
        go_upto_region 15 with fail
        go_cut [68]from 19 (fun s68 wx=>∃t:Bool,s68 = .bool t∧wx=wc)
        case first=>
         cases wb <;> cases wp <;> (go_wp2_with fail
                                    go_meet
                                    exact⟨_,rfl,rfl⟩)
        case rest=>
         obtain⟨t,rfl,rfl⟩:=hcut
         go_upto_if 68 with fail
         go_cut []from 19 (fun wx=>∃d3:Array Int,Mid blk off n w0 a b d a' b' d3 wx)
         case first=>
          cases t
          · go_wp2_with fail
            go_meet
            case rel=>exact⟨d2,HM2.out⟩
          · obtain⟨pi,hpi⟩:∃pi,partialInsertionSort ltInt d2 a' b'=pi:=⟨_,rfl⟩
            have HPI:Hid (PermIn a' b' d2 pi.1∧(pi.2=true→SortedIn ltInt a' b' pi.1)):=by
             show _∧_
             rw[←hpi]
             exact partialInsertionSort_holds swo_ltInt d2 a' b' (by omega) HM2.out.sz HM2.out.below
            have hc:=fun w hA=>partialInsertionSort_any blk off cap a' b' n d2 w0 w hA (by omega) hbn' hsz
            rw[hpi]at hc
            obtain⟨p1,pb⟩:=pi
            have HC:Hid (∀w,At blk off w0 w n d2→Calls Tryz.prog 109 #[.slice (some ⟨blk,off,none⟩) n cap,.int .i64 a',.int .i64 b'] w fun e w'=>e = .returned (.bool pb)∧At blk off w0 w' n p1):=hc
            clear hc hpi
            cases pb
            · go_wp2_with (go_at_call 109;refine(HC.out _ HM2.out.at_).mono ?_;rintro e w4 ⟨rfl,hw4⟩)
              go_meet
              case rel=>exact⟨p1,HM2.out.step HPI.out.1 hw4⟩
            · go_wp2_with (go_at_call 109;refine(HC.out _ HM2.out.at_).mono ?_;rintro e w4 ⟨rfl,hw4⟩)
              go_returns
              exact HM2.out.done ⟨HPI.out.1,HPI.out.2 (by first|trivial|exact rfl)⟩ hw4
         case rest=>
          clear HM2
          obtain⟨d3,hM3⟩:=hcut
          obtain⟨G,hG,hcw,hfw⟩:=hM3.at_.fam
          have HG:Hid (∀t,G t=d3[t]!):=hG
          have HM3:Hid (Mid blk off n w0 a b d a' b' d3 wc):=hM3
          clear hM3 hG
          have hpn:p<n:=by omega
          by_cases ha0:0<a'
          · have ha0z:(0:Int)<(a':Int):=by omega
            have han:a'-1<n:=by omega
            go_wp2_with fail
            go_quiet (first|(go_at_call 110;refine Calls.quiet_of_same (Less_any _ _ _)))
            have HM4:Hid (Mid blk off n w0 a b d a' b' d3 (wc.drewN nq)):=HM3.out.same (HM3.out.at_.drewN _)
            cases hlt:ltInt (G (a'-1)) (G p)
            · go_wp2_with (go_at_call 111;refine(partitionEqual_any blk off cap a' b' p n d3 w0 _ HM4.out.at_ hp1 hp2 hbn' hsz).mono ?_;rintro e w5 ⟨rfl,hw5⟩)
              obtain⟨q1,q2,hq⟩:=HM4.out.eqs ha0 hp1 hp2 (by rw[←HG.out,←HG.out,hlt]) hw5
              go_roundw
              case rel=>exact⟨_,b',l1,wb,wp,_,rfl,rfl,rfl,rfl,rfl,by omega,hl1,hq⟩
              case measure=>simp[intOf];omega
            · skip
              obtain⟨m,hm⟩:∃m,(partition ltInt d3 a' b' p).1=m:=⟨_,rfl⟩
              obtain⟨d4,hd4⟩:∃d4,(partition ltInt d3 a' b' p).2.2=d4:=⟨_,rfl⟩
              have hP:=HM4.out.parts hp1 hp2
              have hc:=fun w hA=>partition_any blk off cap a' b' p n d3 w0 w hA hp1 hp2 hbn' hsz
              rw[hm,hd4]at hP hc
              have HC:Hid (∀w,At blk off w0 w n d3→Calls Tryz.prog 112 #[.slice (some ⟨blk,off,none⟩) n cap,.int .i64 a',.int .i64 b',.int .i64 p] w fun e w'=>∃ap:Bool,e = .returned (.tuple #[.int .i64 m,.bool ap])∧At blk off w0 w' n d4):=hc
              have HP:Hid (Parts blk off n w0 a b d a' b' m d4):=hP
              have hm1:=hP.lo
              have hm2:=hP.hi
              clear hc hP hm hd4
              obtain⟨mm,hmm⟩:∃mm,m+1=mm:=⟨_,rfl⟩
              have hmmi:(m:Int)+1=(mm:Int):=by omega
              have HMM:Hid (m+1=mm):=hmm
              clear hmm
              go_upto_if 113 with(go_at_call 112;refine(HC.out _ HM4.out.at_).mono ?_;rintro e w5 ⟨ap,rfl,hw5⟩)
              have HW5:Hid (At blk off w0 w5 n d4):=hw5
              clear hw5
              by_cases hlr:(m:Int)-(a':Int)<(b':Int)-(m:Int)
              · go_wp2_with (go_at_call 81;refine(HIH.out a' m l1 d4 _ (by omega) HW5.out hm1 (by omega) hl1 HP.out.bl).mono ?_;rintro e w6 ⟨rfl,L,hL1,hL2,hL3⟩)
                go_roundw
                case rel=>exact⟨mm,b',l1,_,_,L,rfl,rfl,rfl,rfl,rfl,by have:=HMM.out;omega,hl1,by rw[←HMM.out];exact HP.out.left L _ hL1 hL2 hL3⟩
                case measure=>simp[intOf];have:=HMM.out;omega
              · go_wp2_with (go_at_call 81;refine(HIH.out mm b' l1 d4 _ (by have:=HMM.out;omega) HW5.out (by have:=HMM.out;omega) (by omega) hl1 (by rw[←HMM.out];exact HP.out.br)).mono ?_;rintro e w6 ⟨rfl,L,hL1,hL2,hL3⟩)
                go_roundw
                case rel=>exact⟨a',m,l1,_,_,L,rfl,rfl,rfl,rfl,rfl,by omega,hl1,HP.out.right L _ (by rw[HMM.out];exact hL1) (by rw[HMM.out];exact hL2) hL3⟩
                case measure=>simp[intOf];omega
          · have ha0z:decide ((0:Int)<(a':Int))=false:=by simp;omega
            go_wp2_with fail
            go_quiet (first|(go_at_call 110;refine Calls.quiet_of_same (Less_any _ _ _)))
            have HM4:Hid (Mid blk off n w0 a b d a' b' d3 (wc.drewN nq)):=HM3.out.same (HM3.out.at_.drewN _)
            obtain⟨m,hm⟩:∃m,(partition ltInt d3 a' b' p).1=m:=⟨_,rfl⟩
            obtain⟨d4,hd4⟩:∃d4,(partition ltInt d3 a' b' p).2.2=d4:=⟨_,rfl⟩
            have hP:=HM4.out.parts hp1 hp2
            have hc:=fun w hA=>partition_any blk off cap a' b' p n d3 w0 w hA hp1 hp2 hbn' hsz
            rw[hm,hd4]at hP hc
            have HC:Hid (∀w,At blk off w0 w n d3→Calls Tryz.prog 112 #[.slice (some ⟨blk,off,none⟩) n cap,.int .i64 a',.int .i64 b',.int .i64 p] w fun e w'=>∃ap:Bool,e = .returned (.tuple #[.int .i64 m,.bool ap])∧At blk off w0 w' n d4):=hc
            have HP:Hid (Parts blk off n w0 a b d a' b' m d4):=hP
            have hm1:=hP.lo
            have hm2:=hP.hi
            clear hc hP hm hd4
            obtain⟨mm,hmm⟩:∃mm,m+1=mm:=⟨_,rfl⟩
            have hmmi:(m:Int)+1=(mm:Int):=by omega
            have HMM:Hid (m+1=mm):=hmm
            clear hmm
            go_upto_if 113 with(go_at_call 112;refine(HC.out _ HM4.out.at_).mono ?_;rintro e w5 ⟨ap,rfl,hw5⟩)
            have HW5:Hid (At blk off w0 w5 n d4):=hw5
            clear hw5
            by_cases hlr:(m:Int)-(a':Int)<(b':Int)-(m:Int)
            · go_wp2_with (go_at_call 81;refine(HIH.out a' m l1 d4 _ (by omega) HW5.out hm1 (by omega) hl1 HP.out.bl).mono ?_;rintro e w6 ⟨rfl,L,hL1,hL2,hL3⟩)
              go_roundw
              case rel=>exact⟨mm,b',l1,_,_,L,rfl,rfl,rfl,rfl,rfl,by have:=HMM.out;omega,hl1,by rw[←HMM.out];exact HP.out.left L _ hL1 hL2 hL3⟩
              case measure=>simp[intOf];have:=HMM.out;omega
            · go_wp2_with (go_at_call 81;refine(HIH.out mm b' l1 d4 _ (by have:=HMM.out;omega) HW5.out (by have:=HMM.out;omega) (by omega) hl1 (by rw[←HMM.out];exact HP.out.br)).mono ?_;rintro e w6 ⟨rfl,L,hL1,hL2,hL3⟩)
              go_roundw
              case rel=>exact⟨a',m,l1,_,_,L,rfl,rfl,rfl,rfl,rfl,by omega,hl1,HP.out.right L _ (by rw[HMM.out];exact hL1) (by rw[HMM.out];exact hL2) hL3⟩
              case measure=>simp[intOf];omega
end SrtU
end Go.Proofs.YthecngkdmnadoaaGreat

namespace Go.Proofs.YthecngkdmnadoaaGreat
open Go.RowKit Go.Sort
set_option maxRecDepth 100000
namespace SrtU
def sorted(xs:List Int):List Int:=xs.mergeSort (fun x y=>decide (x≤y))
theorem sorts_sorted{blk off n:Nat}{d:Array Int}{w0 w w':World}{e:Ending}(hA:At blk off w0 w n d)(h:Sorts blk off n 0 n d w0 e w'):e = .returned (.tuple #[])∧At blk off w0 w' n (sorted d.toList).toArray:=by
 obtain⟨h1,R,h2,h3,h4⟩:=h;refine⟨h1,?_⟩;have hs:=hA.size;subst hs;have hu:=sorted_unique_holds swo_ltInt (fun x y h1 h2=>by simp only[ltInt,decide_eq_false_iff_not]at h1 h2;omega) d R h2 h3;have hf:(fun x y:Int=>!ltInt y x)=(fun x y=>decide (x≤y)):=by
  funext x y;by_cases hxy:x≤y
  · have:¬y<x:=by omega
    simp[ltInt,hxy,this]
  · have:y<x:=by omega
    simp[ltInt,hxy,this]
 rw[hf]at hu;have:R=(sorted d.toList).toArray:=by
  apply Array.ext';rw[hu];rfl
 rw[←this];exact h4
set_option maxHeartbeats 4000000 in
theorem Sort_any(blk off cap n:Nat)(d:Array Int)(w0 w:World)(hA:At blk off w0 w n d)(hlow:blk<w0.heap.size)(hsz:n<2305843009213693952):
 Calls Tryz.prog 63 #[.slice (some ⟨blk,off,none⟩) n cap] w fun e w'=>e = .returned (.tuple #[])∧At blk off w0 w' n (sorted d.toList).toArray:=by
 have HA:Hid (At blk off w0 w n d):=hA;have hLen:∀w,Calls Tryz.prog 82 #[.int .u64 (n:Int)] w fun e w'=>e = .returned (.int .i64 (bitsLen n:Nat))∧w'=w:=fun w=>by
  have h:=bits_Len (n:Int) w (by omega) (by omega)
  rwa [Int.toNat_natCast,bitLen_eq _ (by omega)]at h
 have HL:Hid (∀w,Calls Tryz.prog 82 #[.int .u64 (n:Int)] w fun e w'=>e = .returned (.int .i64 (bitsLen n:Nat))∧w'=w):=hLen;have hk:bitsLen n≤62:=(bitsLen_le_iff n 62).2 (by omega)
 have HP:Hid (Calls Tryz.prog 81 #[.slice (some ⟨blk,off,none⟩) n cap,.int .i64 ((0:Nat):Int),.int .i64 (n:Int),.int .i64 (bitsLen n:Nat)] w (Sorts blk off n 0 n d w0)):=
  pdq_any n blk off cap 0 n n (bitsLen n) d w0 w (by omega) hA hlow (Nat.zero_le _) (Nat.le_refl _) hsz (by omega) (.inl rfl)
 clear hA hLen;go_enter Tryz.func63,Tryz.ntmps63;go_wp2_with (first|(go_at_call 82;refine(HL.out _).mono ?_;rintro e w' ⟨rfl,rfl⟩)|(go_at_call 81;refine HP.out.mono ?_;rintro e w' hS;obtain⟨rfl,hA'⟩:=sorts_sorted HA.out hS))
 go_end0
 exact⟨rfl,hA'⟩
set_option maxHeartbeats 4000000 in
theorem insertion_nil(w:World):Calls Tryz.prog 104 #[.slice none 0 0,.int .i64 0,.int .i64 0] w fun e w'=>e = .returned (.tuple #[])∧w'=w:=by
 go_enter Tryz.func104,Tryz.ntmps104;go_wp2;refine wp_loop_rounds 1 ?_;rw[rounds_succ];go_wp2
 go_end0
 exact⟨rfl,rfl⟩
set_option maxHeartbeats 4000000 in
theorem pdq_nil(w:World):Calls Tryz.prog 81 #[.slice none 0 0,.int .i64 0,.int .i64 0,.int .i64 0] w fun e w'=>e = .returned (.tuple #[])∧w'=w:=by
 go_enter Tryz.func81,Tryz.ntmps81;go_wp2;refine wp_loop_rounds 1 ?_;rw[rounds_succ];go_wp2_with (go_at_call 104;refine(insertion_nil _).mono ?_;rintro e w' ⟨rfl,rfl⟩);go_returns;exact⟨rfl,rfl⟩
set_option maxHeartbeats 4000000 in
theorem Sort_nil(w:World):Calls Tryz.prog 63 #[.slice none 0 0] w fun e w'=>e = .returned (.tuple #[])∧w'=w:=by
 have hLen:∀w,Calls Tryz.prog 82 #[.int .u64 0] w fun e w'=>e = .returned (.int .i64 0)∧w'=w:=fun w=>bits_Len 0 w (by omega) (by omega)
 go_enter Tryz.func63,Tryz.ntmps63;go_wp2_with (first|(go_at_call 82;refine(hLen _).mono ?_;rintro e w' ⟨rfl,rfl⟩)|(go_at_call 81;refine(pdq_nil _).mono ?_;rintro e w' ⟨rfl,rfl⟩))
 go_end0
 exact⟨rfl,rfl⟩
end SrtU
end Go.Proofs.YthecngkdmnadoaaGreat
