import Derived.Test.YthecngkdmnadoaaGreatG15
namespace Go.Proofs.YthecngkdmnadoaaGreat
open Go.RowKit Go.Sort
set_option maxRecDepth 100000
namespace SrtU
theorem up_go{p:Int→Bool}{d:Array Int}{j i:Nat}(h:i≤j)(hp:p d[i]! = true):scanUp p d j i=scanUp p d j (i+1):=by rw[scanUp,if_pos (by simp[h,hp])]
theorem up_stop{p:Int→Bool}{d:Array Int}{j i:Nat}(h:¬i≤j∨p d[i]! = false):scanUp p d j i=i:=by
 rw[scanUp,if_neg];rcases h with h|h
 · simp[h]
 · simp[h]
theorem down_go{p:Int→Bool}{d:Array Int}{j i:Nat}(h0:0<j)(h:i≤j)(hp:p d[j]! = true):scanDown p d i j=scanDown p d i (j-1):=by
 obtain⟨k,rfl⟩:∃k,j=k+1:=⟨j-1,by omega⟩;rw[scanDown,if_pos (by simp[h,hp])];rfl
theorem down_stop{p:Int→Bool}{d:Array Int}{j i:Nat}(h:¬i≤j∨p d[j]! = false):scanDown p d i j=j:=by
 cases j with
 |zero=>rfl
 |succ k=>
  rw[scanDown,if_neg];rcases h with h|h
  · simp[h]
  · simp[h]
theorem scans_apart{p q:Int→Bool}(hq:∀x,q x=!p x){d:Array Int}{i j i2 j2:Nat}(h1:scanUp p d j i=i2)(h2:scanDown q d i2 j=j2)(hi:0<i)(hle:i2≤j2):i2<j2:=by
 rcases Nat.lt_or_ge i2 j2 with h|h
 · exact h
 · have e:i2=j2:=by omega
   have hge:=scanUp_ge p d j i;have hdl:=scanDown_le q d i2 j;have s1:=(scanUp_spec p d j _ i rfl).2.2.2;have s2:=(scanDown_spec q d i2 j).2.2.2;rw[h1]at s1 hge;rw[h2]at s2 hdl;have a1:=s1 (by omega);have a2:=s2 (by omega) (by omega);rw[hq,←e,a1]at a2;cases a2
set_option maxHeartbeats 16000000 in
theorem partitionEqual_any(blk off cap a b pivot n:Nat)(d:Array Int)(w0 w:World)(hA:At blk off w0 w n d)(hap:a≤pivot)(hpb:pivot<b)(hb:b≤n)(hsz:n<2305843009213693952):
 Calls Tryz.prog 111 #[.slice (some ⟨blk,off,none⟩) n cap,.int .i64 a,.int .i64 b,.int .i64 pivot] w fun e w'=>
  e = .returned (.int .i64 ((partitionEqual ltInt d a b pivot).1:Nat))∧At blk off w0 w' n (partitionEqual ltInt d a b pivot).2:=by
 obtain⟨D,hD⟩:∃D,swp d a pivot=D:=⟨_,rfl⟩;have HE:Hid (partitionEqual ltInt d a b pivot=partEqLoop ltInt a (a+1) (b-1) D):=by show _=_;rw[partitionEqual,hD]
 have han:a<n:=by omega
 have hpn:pivot<n:=by omega
 obtain⟨G,hG,hcw,hfw⟩:=hA.fam;have HG:Hid (∀t,G t=d[t]!):=hG;have HSw:Hid (At blk off w0 ((w.drew.setCell ⟨blk,off+a,none⟩ (enc d[pivot]!)).setCell ⟨blk,off+pivot,none⟩ (enc d[a]!)) n D):=by rw[←hD];exact(hA.drew).swap han hpn
 clear hG hA hD;go_enter Tryz.func111,Tryz.ntmps111;go_wp2;by_cases hapv:a=pivot
 · subst hapv
   go_region
   all_goals go_wp2
   go_loopw [9,10] (fun vi vj wr=>∃(i j:Nat) (dk:Array Int),vi = .int .i64 i∧vj = .int .i64 j∧a<i∧i≤j+1∧j<b∧At blk off w0 wr n dk∧partEqLoop ltInt a i j dk=partEqLoop ltInt a (a+1) (b-1) D) (fun vi vj _=>(intOf vj+1-intOf vi).toNat)
   case atStart=>exact⟨a+1,b-1,D,by go_num,by congr 1;omega,by omega,by omega,by omega,(by simp only[HG.out];exact HSw.out),rfl⟩
   case round=>
    obtain⟨i,j,dk,rfl,rfl,hai,hij,hjb,hAt,hO⟩:=hrel;have HO:Hid (partEqLoop ltInt a i j dk=partEqLoop ltInt a (a+1) (b-1) D):=hO;have HK:Hid (At blk off w0 wr n dk):=hAt;clear hO hAt;go_wp2
    go_loopw [9] (fun vi wr2=>∃(i2:Nat),vi = .int .i64 i2∧i≤i2∧i2≤j+1∧At blk off w0 wr2 n dk∧scanUp (fun x=>!ltInt dk[a]! x) dk j i2=scanUp (fun x=>!ltInt dk[a]! x) dk j i) (fun vi _=>(j+1-(intOf vi).toNat))
    case atStart=>exact⟨i,rfl,Nat.le_refl _,hij,HK.out,rfl⟩
    case round=>
     obtain⟨i2,rfl,hi2,hi2j,hAt2,hI⟩:=hrel;obtain⟨G2,hG2,hcw2,hfw2⟩:=hAt2.fam;have HG2:Hid (∀t,G2 t=dk[t]!):=hG2;have HI:Hid (scanUp (fun x=>!ltInt dk[a]! x) dk j i2=scanUp (fun x=>!ltInt dk[a]! x) dk j i):=hI;have HK2:Hid (At blk off w0 wr n dk):=hAt2;clear hI hAt2 hG2;by_cases hle:i2≤j
     · have hi2n:i2<n:=by omega
       go_wp2;go_quiet (first|(go_at_call 110;refine Calls.quiet_of_same (Less_any _ _ _)));go_wp2
       · have hl:ltInt (G2 a) (G2 i2)=false:=by first|assumption|(refine bnot_t ?_;assumption)
         go_roundw
         (case rel=>exact⟨i2+1,by go_num,by omega,by omega,HK2.out.drewN _,by rw[←HI.out,←up_go hle (by show(!_)=true;rw[←HG2.out,←HG2.out,hl];rfl)]⟩);case measure=>simp[intOf];omega
       · have hl:ltInt (G2 a) (G2 i2)=true:=by first|assumption|(refine bnot_f ?_;assumption)|(refine bnot_n ?_;assumption)
         have HU:Hid (scanUp (fun x=>!ltInt dk[a]! x) dk j i=i2):=by
          show _=_;rw[←HI.out,up_stop (.inr (by show(!_)=false;rw[←HG2.out,←HG2.out,hl];rfl))]
         have HK3:Hid (At blk off w0 (wr.drewN nq) n dk):=HK2.out.drewN _
         go_loopw [10] (fun vj wr2=>∃(j2:Nat),vj = .int .i64 j2∧i2≤j2+1∧j2≤j∧At blk off w0 wr2 n dk∧scanDown (fun x=>ltInt dk[a]! x) dk i2 j2=scanDown (fun x=>ltInt dk[a]! x) dk i2 j) (fun vj _=>(intOf vj).toNat)
         case atStart=>exact⟨j,rfl,hi2j,Nat.le_refl _,HK3.out,rfl⟩
         case round=>
          obtain⟨j2,rfl,hij2,hj2,hAt3,hJ⟩:=hrel;obtain⟨G3,hG3,hcw3,hfw3⟩:=hAt3.fam;have HG3:Hid (∀t,G3 t=dk[t]!):=hG3;have HJ:Hid (scanDown (fun x=>ltInt dk[a]! x) dk i2 j2=scanDown (fun x=>ltInt dk[a]! x) dk i2 j):=hJ;have HK4:Hid (At blk off w0 wr n dk):=hAt3;clear hJ hAt3 hG3;by_cases hle2:i2≤j2
          · have hj2n:j2<n:=by omega
            go_wp2;go_quiet (first|(go_at_call 110;refine Calls.quiet_of_same (Less_any _ _ _)));go_wp2
            · have hl2:ltInt (G3 a) (G3 j2)=true:=by assumption
              go_roundw
              (case rel=>exact⟨j2-1,by congr 1;omega,by omega,by omega,HK4.out.drewN _,by rw[←HJ.out,←down_go (by omega) hle2 (by show _=true;rw[←HG3.out,←HG3.out,hl2])]⟩);case measure=>simp[intOf];omega
            · have hl2:ltInt (G3 a) (G3 j2)=false:=by assumption
              have HD:Hid (scanDown (fun x=>ltInt dk[a]! x) dk i2 j=j2):=by
               show _=_;rw[←HJ.out,down_stop (.inr (by show _=false;rw[←HG3.out,←HG3.out,hl2]))]
              have hap2:i2<j2:=scans_apart (p:=fun x=>!ltInt dk[a]! x) (fun x=>by simp) HU.out HD.out (by omega) hle2;clear hl2;go_region
              all_goals go_wp2
              go_roundw
              case rel=>
               refine⟨i2+1,j2-1,swp dk i2 j2,by go_num,by congr 1;omega,by omega,by omega,by omega,?_,by rw[←HO.out,partEqLoop_eq ltInt a i j dk,HU.out,HD.out,if_neg (by omega)]⟩;rw[HG3.out,HG3.out];exact((HK4.out.drewN _).drew).swap (by omega) (by omega)
              case measure=>simp[intOf];omega
          · go_wp2
            go_quiet (first|(go_at_call 110;refine Calls.quiet_of_same (Less_any _ _ _)));go_wp2;have HD:Hid (scanDown (fun x=>ltInt dk[a]! x) dk i2 j=j2):=by
             show _=_;rw[←HJ.out,down_stop (.inl hle2)]
            go_ret;(have hfin:partEqLoop ltInt a i j dk=(i2,dk):=by rw[partEqLoop_eq ltInt a i j dk,HU.out,HD.out,if_pos (by omega)]);refine⟨?_,?_⟩
            · rw[HE.out,←HO.out,hfin]
              first|rfl|simp
            · rw[HE.out,←HO.out,hfin]
              exact HK4.out.drewN _
     · go_wp2
       go_quiet (first|(go_at_call 110;refine Calls.quiet_of_same (Less_any _ _ _)));go_wp2;have HU:Hid (scanUp (fun x=>!ltInt dk[a]! x) dk j i=i2):=by
        show _=_;rw[←HI.out,up_stop (.inl hle)]
       have HK3:Hid (At blk off w0 (wr.drewN nq) n dk):=HK2.out.drewN _
       go_loopw [10] (fun vj wr2=>∃(j2:Nat),vj = .int .i64 j2∧i2≤j2+1∧j2≤j∧At blk off w0 wr2 n dk∧scanDown (fun x=>ltInt dk[a]! x) dk i2 j2=scanDown (fun x=>ltInt dk[a]! x) dk i2 j) (fun vj _=>(intOf vj).toNat)
       case atStart=>exact⟨j,rfl,hi2j,Nat.le_refl _,HK3.out,rfl⟩
       case round=>
        obtain⟨j2,rfl,hij2,hj2,hAt3,hJ⟩:=hrel;obtain⟨G3,hG3,hcw3,hfw3⟩:=hAt3.fam;have HG3:Hid (∀t,G3 t=dk[t]!):=hG3;have HJ:Hid (scanDown (fun x=>ltInt dk[a]! x) dk i2 j2=scanDown (fun x=>ltInt dk[a]! x) dk i2 j):=hJ;have HK4:Hid (At blk off w0 wr n dk):=hAt3;clear hJ hAt3 hG3;by_cases hle2:i2≤j2
        · exfalso;omega
        · go_wp2
          go_quiet (first|(go_at_call 110;refine Calls.quiet_of_same (Less_any _ _ _)));go_wp2;have HD:Hid (scanDown (fun x=>ltInt dk[a]! x) dk i2 j=j2):=by
           show _=_;rw[←HJ.out,down_stop (.inl hle2)]
          go_ret;(have hfin:partEqLoop ltInt a i j dk=(i2,dk):=by rw[partEqLoop_eq ltInt a i j dk,HU.out,HD.out,if_pos (by omega)]);refine⟨?_,?_⟩
          · rw[HE.out,←HO.out,hfin]
            first|rfl|simp
          · rw[HE.out,←HO.out,hfin]
            exact HK4.out.drewN _
 · go_region
   all_goals go_wp2
   go_loopw [9,10] (fun vi vj wr=>∃(i j:Nat) (dk:Array Int),vi = .int .i64 i∧vj = .int .i64 j∧a<i∧i≤j+1∧j<b∧At blk off w0 wr n dk∧partEqLoop ltInt a i j dk=partEqLoop ltInt a (a+1) (b-1) D) (fun vi vj _=>(intOf vj+1-intOf vi).toNat)
   case atStart=>exact⟨a+1,b-1,D,by go_num,by congr 1;omega,by omega,by omega,by omega,(by simp only[HG.out];exact HSw.out),rfl⟩
   case round=>
    obtain⟨i,j,dk,rfl,rfl,hai,hij,hjb,hAt,hO⟩:=hrel;have HO:Hid (partEqLoop ltInt a i j dk=partEqLoop ltInt a (a+1) (b-1) D):=hO;have HK:Hid (At blk off w0 wr n dk):=hAt;clear hO hAt;go_wp2
    go_loopw [9] (fun vi wr2=>∃(i2:Nat),vi = .int .i64 i2∧i≤i2∧i2≤j+1∧At blk off w0 wr2 n dk∧scanUp (fun x=>!ltInt dk[a]! x) dk j i2=scanUp (fun x=>!ltInt dk[a]! x) dk j i) (fun vi _=>(j+1-(intOf vi).toNat))
    case atStart=>exact⟨i,rfl,Nat.le_refl _,hij,HK.out,rfl⟩
    case round=>
     obtain⟨i2,rfl,hi2,hi2j,hAt2,hI⟩:=hrel;obtain⟨G2,hG2,hcw2,hfw2⟩:=hAt2.fam;have HG2:Hid (∀t,G2 t=dk[t]!):=hG2;have HI:Hid (scanUp (fun x=>!ltInt dk[a]! x) dk j i2=scanUp (fun x=>!ltInt dk[a]! x) dk j i):=hI;have HK2:Hid (At blk off w0 wr n dk):=hAt2;clear hI hAt2 hG2;by_cases hle:i2≤j
     · have hi2n:i2<n:=by omega
       go_wp2;go_quiet (first|(go_at_call 110;refine Calls.quiet_of_same (Less_any _ _ _)));go_wp2
       · have hl:ltInt (G2 a) (G2 i2)=false:=by first|assumption|(refine bnot_t ?_;assumption)
         go_roundw
         (case rel=>exact⟨i2+1,by go_num,by omega,by omega,HK2.out.drewN _,by rw[←HI.out,←up_go hle (by show(!_)=true;rw[←HG2.out,←HG2.out,hl];rfl)]⟩);case measure=>simp[intOf];omega
       · have hl:ltInt (G2 a) (G2 i2)=true:=by first|assumption|(refine bnot_f ?_;assumption)|(refine bnot_n ?_;assumption)
         have HU:Hid (scanUp (fun x=>!ltInt dk[a]! x) dk j i=i2):=by
          show _=_;rw[←HI.out,up_stop (.inr (by show(!_)=false;rw[←HG2.out,←HG2.out,hl];rfl))]
         have HK3:Hid (At blk off w0 (wr.drewN nq) n dk):=HK2.out.drewN _
         go_loopw [10] (fun vj wr2=>∃(j2:Nat),vj = .int .i64 j2∧i2≤j2+1∧j2≤j∧At blk off w0 wr2 n dk∧scanDown (fun x=>ltInt dk[a]! x) dk i2 j2=scanDown (fun x=>ltInt dk[a]! x) dk i2 j) (fun vj _=>(intOf vj).toNat)
         case atStart=>exact⟨j,rfl,hi2j,Nat.le_refl _,HK3.out,rfl⟩
         case round=>
          obtain⟨j2,rfl,hij2,hj2,hAt3,hJ⟩:=hrel;obtain⟨G3,hG3,hcw3,hfw3⟩:=hAt3.fam;have HG3:Hid (∀t,G3 t=dk[t]!):=hG3;have HJ:Hid (scanDown (fun x=>ltInt dk[a]! x) dk i2 j2=scanDown (fun x=>ltInt dk[a]! x) dk i2 j):=hJ;have HK4:Hid (At blk off w0 wr n dk):=hAt3;clear hJ hAt3 hG3;by_cases hle2:i2≤j2
          · have hj2n:j2<n:=by omega
            go_wp2;go_quiet (first|(go_at_call 110;refine Calls.quiet_of_same (Less_any _ _ _)));go_wp2
            · have hl2:ltInt (G3 a) (G3 j2)=true:=by assumption
              go_roundw
              (case rel=>exact⟨j2-1,by congr 1;omega,by omega,by omega,HK4.out.drewN _,by rw[←HJ.out,←down_go (by omega) hle2 (by show _=true;rw[←HG3.out,←HG3.out,hl2])]⟩);case measure=>simp[intOf];omega
            · have hl2:ltInt (G3 a) (G3 j2)=false:=by assumption
              have HD:Hid (scanDown (fun x=>ltInt dk[a]! x) dk i2 j=j2):=by
               show _=_;rw[←HJ.out,down_stop (.inr (by show _=false;rw[←HG3.out,←HG3.out,hl2]))]
              have hap2:i2<j2:=scans_apart (p:=fun x=>!ltInt dk[a]! x) (fun x=>by simp) HU.out HD.out (by omega) hle2;clear hl2;go_region
              all_goals go_wp2
              go_roundw
              case rel=>
               refine⟨i2+1,j2-1,swp dk i2 j2,by go_num,by congr 1;omega,by omega,by omega,by omega,?_,by rw[←HO.out,partEqLoop_eq ltInt a i j dk,HU.out,HD.out,if_neg (by omega)]⟩;rw[HG3.out,HG3.out];exact((HK4.out.drewN _).drew).swap (by omega) (by omega)
              case measure=>simp[intOf];omega
          · go_wp2
            go_quiet (first|(go_at_call 110;refine Calls.quiet_of_same (Less_any _ _ _)));go_wp2;have HD:Hid (scanDown (fun x=>ltInt dk[a]! x) dk i2 j=j2):=by
             show _=_;rw[←HJ.out,down_stop (.inl hle2)]
            go_ret;(have hfin:partEqLoop ltInt a i j dk=(i2,dk):=by rw[partEqLoop_eq ltInt a i j dk,HU.out,HD.out,if_pos (by omega)]);refine⟨?_,?_⟩
            · rw[HE.out,←HO.out,hfin]
              first|rfl|simp
            · rw[HE.out,←HO.out,hfin]
              exact HK4.out.drewN _
     · go_wp2
       go_quiet (first|(go_at_call 110;refine Calls.quiet_of_same (Less_any _ _ _)));go_wp2;have HU:Hid (scanUp (fun x=>!ltInt dk[a]! x) dk j i=i2):=by
        show _=_;rw[←HI.out,up_stop (.inl hle)]
       have HK3:Hid (At blk off w0 (wr.drewN nq) n dk):=HK2.out.drewN _
       go_loopw [10] (fun vj wr2=>∃(j2:Nat),vj = .int .i64 j2∧i2≤j2+1∧j2≤j∧At blk off w0 wr2 n dk∧scanDown (fun x=>ltInt dk[a]! x) dk i2 j2=scanDown (fun x=>ltInt dk[a]! x) dk i2 j) (fun vj _=>(intOf vj).toNat)
       case atStart=>exact⟨j,rfl,hi2j,Nat.le_refl _,HK3.out,rfl⟩
       case round=>
        obtain⟨j2,rfl,hij2,hj2,hAt3,hJ⟩:=hrel;obtain⟨G3,hG3,hcw3,hfw3⟩:=hAt3.fam;have HG3:Hid (∀t,G3 t=dk[t]!):=hG3;have HJ:Hid (scanDown (fun x=>ltInt dk[a]! x) dk i2 j2=scanDown (fun x=>ltInt dk[a]! x) dk i2 j):=hJ;have HK4:Hid (At blk off w0 wr n dk):=hAt3;clear hJ hAt3 hG3;by_cases hle2:i2≤j2
        · exfalso;omega
        · go_wp2
          go_quiet (first|(go_at_call 110;refine Calls.quiet_of_same (Less_any _ _ _)));go_wp2;have HD:Hid (scanDown (fun x=>ltInt dk[a]! x) dk i2 j=j2):=by
           show _=_;rw[←HJ.out,down_stop (.inl hle2)]
          go_ret;(have hfin:partEqLoop ltInt a i j dk=(i2,dk):=by rw[partEqLoop_eq ltInt a i j dk,HU.out,HD.out,if_pos (by omega)]);refine⟨?_,?_⟩
          · rw[HE.out,←HO.out,hfin]
            first|rfl|simp
          · rw[HE.out,←HO.out,hfin]
            exact HK4.out.drewN _
end SrtU
end Go.Proofs.YthecngkdmnadoaaGreat
