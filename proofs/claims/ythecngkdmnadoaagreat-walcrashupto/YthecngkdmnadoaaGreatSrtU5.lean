import Derived.Test.YthecngkdmnadoaaGreatSrtU4
namespace Go.Proofs.YthecngkdmnadoaaGreat
open Go.RowKit Go.Sort
set_option maxRecDepth 100000
namespace SrtU
set_option maxHeartbeats 32000000 in
theorem partition_any(blk off cap a b pivot n:Nat)(d:Array Int)(w0 w:World)(hA:At blk off w0 w n d)(hap:a≤pivot)(hpb:pivot<b)(hb:b≤n)(hsz:n<2305843009213693952):
 Calls Tryz.prog 112 #[.slice (some ⟨blk,off,none⟩) n cap,.int .i64 a,.int .i64 b,.int .i64 pivot] w fun e w'=>
  ∃ap:Bool,e = .returned (.tuple #[.int .i64 ((partition ltInt d a b pivot).1:Nat),.bool ap])∧At blk off w0 w' n (partition ltInt d a b pivot).2.2:=by
 obtain⟨dk,hD⟩:∃D,swp d a pivot=D:=⟨_,rfl⟩;obtain⟨R,hR⟩:∃R,partLoop ltInt a (a+1) (b-1) dk=R:=⟨_,rfl⟩;have HE1:Hid ((partition ltInt d a b pivot).1=R.1):=by show _=_;rw[partition_fst,hD,hR]
 have HE2:Hid ((partition ltInt d a b pivot).2.2=swp R.2 R.1 a):=by show _=_;rw[partition_arr,hD,hR]
 have han:a<n:=by omega
 have hpn:pivot<n:=by omega
 obtain⟨j,hj⟩:∃j,b-1=j:=⟨_,rfl⟩;obtain⟨i,hi⟩:∃i,a+1=i:=⟨_,rfl⟩;have HO:Hid (partLoop ltInt a i j dk=R):=by show _=_;rw[←hi,←hj];exact hR
 have hbj:(b:Int)-1=(j:Int):=by omega
 have hai:a<i:=by omega
 have hij:i≤j+1:=by omega
 have hjb:j<b:=by omega
 obtain⟨G,hG,hcw,hfw⟩:=hA.fam;have HG:Hid (∀t,G t=d[t]!):=hG;have HSw:Hid (At blk off w0 ((w.drew.setCell ⟨blk,off+a,none⟩ (enc d[pivot]!)).setCell ⟨blk,off+pivot,none⟩ (enc d[a]!)) n dk):=by rw[←hD];exact(hA.drew).swap han hpn
 have HI0:Hid (a+1=i):=hi;clear hG hA hD hR hj hi;go_enter Tryz.func112,Tryz.ntmps112;go_wp2;by_cases hapv:a=pivot
 · subst hapv
   go_region
   all_goals go_wp2
   try rw[hbj]
   go_loopw [10] (fun vi wr2=>∃(i2:Nat),vi = .int .i64 i2∧i≤i2∧i2≤j+1∧At blk off w0 wr2 n dk∧scanUp (fun x=>ltInt x dk[a]!) dk j i2=scanUp (fun x=>ltInt x dk[a]!) dk j i) (fun vi _=>(j+1-(intOf vi).toNat))
   case atStart=>exact⟨i,(by rw[←HI0.out];go_num),Nat.le_refl _,hij,(by simp only[HG.out];exact HSw.out),rfl⟩
   case round=>
    obtain⟨i2,rfl,hi2,hi2j,hAt2,hI⟩:=hrel;obtain⟨G2,hG2,hcw2,hfw2⟩:=hAt2.fam;have HG2:Hid (∀t,G2 t=dk[t]!):=hG2;have HI:Hid (scanUp (fun x=>ltInt x dk[a]!) dk j i2=scanUp (fun x=>ltInt x dk[a]!) dk j i):=hI;have HK2:Hid (At blk off w0 wr n dk):=hAt2;clear hI hAt2 hG2;by_cases hle:i2≤j
    · have hi2n:i2<n:=by omega
      go_wp2;go_quiet (first|(go_at_call 110;refine Calls.quiet_of_same (Less_any _ _ _)));go_wp2
      · have hl:ltInt (G2 i2) (G2 a)=true:=by assumption
        go_roundw
        (case rel=>exact⟨i2+1,by go_num,by omega,by omega,HK2.out.drewN _,by rw[←HI.out,←up_go hle (by show _=true;rw[←HG2.out,←HG2.out,hl])]⟩);case measure=>simp[intOf];omega
      · have hl:ltInt (G2 i2) (G2 a)=false:=by assumption
        have HU:Hid (scanUp (fun x=>ltInt x dk[a]!) dk j i=i2):=by
         show _=_;rw[←HI.out,up_stop (.inr (by show _=false;rw[←HG2.out,←HG2.out,hl]))]
        have HK3:Hid (At blk off w0 (wr.drewN nq) n dk):=HK2.out.drewN _
        go_loopw [11] (fun vj wr2=>∃(j2:Nat),vj = .int .i64 j2∧i2≤j2+1∧j2≤j∧At blk off w0 wr2 n dk∧scanDown (fun x=>!ltInt x dk[a]!) dk i2 j2=scanDown (fun x=>!ltInt x dk[a]!) dk i2 j) (fun vj _=>(intOf vj).toNat)
        case atStart=>exact⟨j,rfl,hi2j,Nat.le_refl _,HK3.out,rfl⟩
        case round=>
         obtain⟨j2,rfl,hij2,hj2,hAt3,hJ⟩:=hrel;obtain⟨G3,hG3,hcw3,hfw3⟩:=hAt3.fam;have HG3:Hid (∀t,G3 t=dk[t]!):=hG3;have HJ:Hid (scanDown (fun x=>!ltInt x dk[a]!) dk i2 j2=scanDown (fun x=>!ltInt x dk[a]!) dk i2 j):=hJ;have HK4:Hid (At blk off w0 wr n dk):=hAt3;clear hJ hAt3 hG3;by_cases hle2:i2≤j2
         · have hj2n:j2<n:=by omega
           go_wp2;go_quiet (first|(go_at_call 110;refine Calls.quiet_of_same (Less_any _ _ _)));go_wp2
           · have hl2:ltInt (G3 j2) (G3 a)=false:=by first|assumption|(refine bnot_t ?_;assumption)
             go_roundw
             (case rel=>exact⟨j2-1,by congr 1;omega,by omega,by omega,HK4.out.drewN _,by rw[←HJ.out,←down_go (by omega) hle2 (by show(!_)=true;rw[←HG3.out,←HG3.out,hl2];rfl)]⟩);case measure=>simp[intOf];omega
           · have hl2:ltInt (G3 j2) (G3 a)=true:=by first|assumption|(refine bnot_f ?_;assumption)|(refine bnot_n ?_;assumption)
             have HD:Hid (scanDown (fun x=>!ltInt x dk[a]!) dk i2 j=j2):=by
              show _=_;rw[←HJ.out,down_stop (.inr (by show(!_)=false;rw[←HG3.out,←HG3.out,hl2];rfl))]
             have hap2:i2<j2:=scans_apart (p:=fun x=>ltInt x dk[a]!) (fun x=>rfl) HU.out HD.out (by omega) hle2;clear hl2;go_region
             all_goals go_wp2
             have HN:Hid (partLoop ltInt a (i2+1) (j2-1) (swp dk i2 j2)=R):=by
              show _=_;rw[←HO.out,partLoop_eq ltInt a i j dk,HU.out,HD.out,if_neg (by omega)]
             have HK5:Hid (At blk off w0 (((wr.drewN nq).drew.setCell ⟨blk,off+i2,none⟩ (enc dk[j2]!)).setCell ⟨blk,off+j2,none⟩ (enc dk[i2]!)) n (swp dk i2 j2)):=((HK4.out.drewN _).drew).swap (by omega) (by omega)
             go_loopw [10,11] (fun vi vj wr=>∃(i j:Nat) (dk:Array Int),vi = .int .i64 i∧vj = .int .i64 j∧a<i∧i≤j+1∧j<b∧At blk off w0 wr n dk∧partLoop ltInt a i j dk=R) (fun vi vj _=>(intOf vj+1-intOf vi).toNat)
             case atStart=>exact⟨i2+1,j2-1,swp dk i2 j2,by go_num,by congr 1;omega,by omega,by omega,by omega,(by simp only[HG3.out];exact HK5.out),HN.out⟩
             case round=>
              clear HN HK5 HK4 hcw3 hfw3 HG3 HJ HD HU HK3 HK2 HI HG2 hcw2 hfw2 HO;clear hap2 hle2 hj2 hij2 hi2 hi2j;obtain⟨i,j,dk,rfl,rfl,hai,hij,hjb,hAt,hO⟩:=hrel;have HO:Hid (partLoop ltInt a i j dk=R):=hO;have HK:Hid (At blk off w0 wr n dk):=hAt;clear hO hAt;go_wp2
              go_loopw [10] (fun vi wr2=>∃(i2:Nat),vi = .int .i64 i2∧i≤i2∧i2≤j+1∧At blk off w0 wr2 n dk∧scanUp (fun x=>ltInt x dk[a]!) dk j i2=scanUp (fun x=>ltInt x dk[a]!) dk j i) (fun vi _=>(j+1-(intOf vi).toNat))
              case atStart=>exact⟨i,rfl,Nat.le_refl _,hij,HK.out,rfl⟩
              case round=>
               obtain⟨i2,rfl,hi2,hi2j,hAt2,hI⟩:=hrel;obtain⟨G2,hG2,hcw2,hfw2⟩:=hAt2.fam;have HG2:Hid (∀t,G2 t=dk[t]!):=hG2;have HI:Hid (scanUp (fun x=>ltInt x dk[a]!) dk j i2=scanUp (fun x=>ltInt x dk[a]!) dk j i):=hI;have HK2:Hid (At blk off w0 wr n dk):=hAt2;clear hI hAt2 hG2;by_cases hle:i2≤j
               · have hi2n:i2<n:=by omega
                 go_wp2;go_quiet (first|(go_at_call 110;refine Calls.quiet_of_same (Less_any _ _ _)));go_wp2
                 · have hl:ltInt (G2 i2) (G2 a)=true:=by assumption
                   go_roundw
                   (case rel=>exact⟨i2+1,by go_num,by omega,by omega,HK2.out.drewN _,by rw[←HI.out,←up_go hle (by show _=true;rw[←HG2.out,←HG2.out,hl])]⟩);case measure=>simp[intOf];omega
                 · have hl:ltInt (G2 i2) (G2 a)=false:=by assumption
                   have HU:Hid (scanUp (fun x=>ltInt x dk[a]!) dk j i=i2):=by
                    show _=_;rw[←HI.out,up_stop (.inr (by show _=false;rw[←HG2.out,←HG2.out,hl]))]
                   have HK3:Hid (At blk off w0 (wr.drewN nq) n dk):=HK2.out.drewN _
                   go_loopw [11] (fun vj wr2=>∃(j2:Nat),vj = .int .i64 j2∧i2≤j2+1∧j2≤j∧At blk off w0 wr2 n dk∧scanDown (fun x=>!ltInt x dk[a]!) dk i2 j2=scanDown (fun x=>!ltInt x dk[a]!) dk i2 j) (fun vj _=>(intOf vj).toNat)
                   case atStart=>exact⟨j,rfl,hi2j,Nat.le_refl _,HK3.out,rfl⟩
                   case round=>
                    obtain⟨j2,rfl,hij2,hj2,hAt3,hJ⟩:=hrel;obtain⟨G3,hG3,hcw3,hfw3⟩:=hAt3.fam;have HG3:Hid (∀t,G3 t=dk[t]!):=hG3;have HJ:Hid (scanDown (fun x=>!ltInt x dk[a]!) dk i2 j2=scanDown (fun x=>!ltInt x dk[a]!) dk i2 j):=hJ;have HK4:Hid (At blk off w0 wr n dk):=hAt3;clear hJ hAt3 hG3;by_cases hle2:i2≤j2
                    · have hj2n:j2<n:=by omega
                      go_wp2;go_quiet (first|(go_at_call 110;refine Calls.quiet_of_same (Less_any _ _ _)));go_wp2
                      · have hl2:ltInt (G3 j2) (G3 a)=false:=by first|assumption|(refine bnot_t ?_;assumption)
                        go_roundw
                        (case rel=>exact⟨j2-1,by congr 1;omega,by omega,by omega,HK4.out.drewN _,by rw[←HJ.out,←down_go (by omega) hle2 (by show(!_)=true;rw[←HG3.out,←HG3.out,hl2];rfl)]⟩);case measure=>simp[intOf];omega
                      · have hl2:ltInt (G3 j2) (G3 a)=true:=by first|assumption|(refine bnot_f ?_;assumption)|(refine bnot_n ?_;assumption)
                        have HD:Hid (scanDown (fun x=>!ltInt x dk[a]!) dk i2 j=j2):=by
                         show _=_;rw[←HJ.out,down_stop (.inr (by show(!_)=false;rw[←HG3.out,←HG3.out,hl2];rfl))]
                        have hap2:i2<j2:=scans_apart (p:=fun x=>ltInt x dk[a]!) (fun x=>rfl) HU.out HD.out (by omega) hle2;clear hl2;go_region
                        all_goals go_wp2
                        have HN:Hid (partLoop ltInt a (i2+1) (j2-1) (swp dk i2 j2)=R):=by
                         show _=_;rw[←HO.out,partLoop_eq ltInt a i j dk,HU.out,HD.out,if_neg (by omega)]
                        have HK5:Hid (At blk off w0 (((wr.drewN nq).drew.setCell ⟨blk,off+i2,none⟩ (enc dk[j2]!)).setCell ⟨blk,off+j2,none⟩ (enc dk[i2]!)) n (swp dk i2 j2)):=((HK4.out.drewN _).drew).swap (by omega) (by omega)
                        go_roundw
                        (case rel=>exact⟨i2+1,j2-1,swp dk i2 j2,by go_num,by congr 1;omega,by omega,by omega,by omega,(by simp only[HG3.out];exact HK5.out),HN.out⟩);case measure=>simp[intOf];omega
                    · go_wp2
                      go_quiet (first|(go_at_call 110;refine Calls.quiet_of_same (Less_any _ _ _)));go_wp2;have HD:Hid (scanDown (fun x=>!ltInt x dk[a]!) dk i2 j=j2):=by
                       show _=_;rw[←HJ.out,down_stop (.inl hle2)]
                      have HF:Hid (R=(j2,dk)):=by
                       show _=_;rw[←HO.out,partLoop_eq ltInt a i j dk,HU.out,HD.out,if_pos (by omega)]
                      (have haj2:a≤j2:=by omega);(have hj2n:j2<n:=by omega);have HK5:Hid (At blk off w0 (((wr.drewN nq).drew.setCell ⟨blk,off+j2,none⟩ (enc dk[a]!)).setCell ⟨blk,off+a,none⟩ (enc dk[j2]!)) n (swp dk j2 a)):=((HK4.out.drewN _).drew).swap (by omega) (by omega);by_cases hja:j2=a
                      · subst hja
                        try (exfalso;omega)
                        all_goals
                         go_region
                         all_goals go_wp2
                         go_ret2;refine⟨false,?_,?_⟩
                         · rw[HE1.out,HF.out]
                           first|rfl|simp
                         · rw[HE2.out,HF.out]
                           simp only[HG3.out];exact HK5.out
                      · go_region
                        all_goals go_wp2
                        go_ret2;refine⟨false,?_,?_⟩
                        · rw[HE1.out,HF.out]
                          first|rfl|simp
                        · rw[HE2.out,HF.out]
                          simp only[HG3.out];exact HK5.out
               · go_wp2
                 go_quiet (first|(go_at_call 110;refine Calls.quiet_of_same (Less_any _ _ _)));go_wp2;have HU:Hid (scanUp (fun x=>ltInt x dk[a]!) dk j i=i2):=by
                  show _=_;rw[←HI.out,up_stop (.inl hle)]
                 have HK3:Hid (At blk off w0 (wr.drewN nq) n dk):=HK2.out.drewN _
                 go_loopw [11] (fun vj wr2=>∃(j2:Nat),vj = .int .i64 j2∧i2≤j2+1∧j2≤j∧At blk off w0 wr2 n dk∧scanDown (fun x=>!ltInt x dk[a]!) dk i2 j2=scanDown (fun x=>!ltInt x dk[a]!) dk i2 j) (fun vj _=>(intOf vj).toNat)
                 case atStart=>exact⟨j,rfl,hi2j,Nat.le_refl _,HK3.out,rfl⟩
                 case round=>
                  obtain⟨j2,rfl,hij2,hj2,hAt3,hJ⟩:=hrel;obtain⟨G3,hG3,hcw3,hfw3⟩:=hAt3.fam;have HG3:Hid (∀t,G3 t=dk[t]!):=hG3;have HJ:Hid (scanDown (fun x=>!ltInt x dk[a]!) dk i2 j2=scanDown (fun x=>!ltInt x dk[a]!) dk i2 j):=hJ;have HK4:Hid (At blk off w0 wr n dk):=hAt3;clear hJ hAt3 hG3;by_cases hle2:i2≤j2
                  · exfalso;omega
                  · go_wp2
                    go_quiet (first|(go_at_call 110;refine Calls.quiet_of_same (Less_any _ _ _)));go_wp2;have HD:Hid (scanDown (fun x=>!ltInt x dk[a]!) dk i2 j=j2):=by
                     show _=_;rw[←HJ.out,down_stop (.inl hle2)]
                    have HF:Hid (R=(j2,dk)):=by
                     show _=_;rw[←HO.out,partLoop_eq ltInt a i j dk,HU.out,HD.out,if_pos (by omega)]
                    (have haj2:a≤j2:=by omega);(have hj2n:j2<n:=by omega);have HK5:Hid (At blk off w0 (((wr.drewN nq).drew.setCell ⟨blk,off+j2,none⟩ (enc dk[a]!)).setCell ⟨blk,off+a,none⟩ (enc dk[j2]!)) n (swp dk j2 a)):=((HK4.out.drewN _).drew).swap (by omega) (by omega);by_cases hja:j2=a
                    · subst hja
                      try (exfalso;omega)
                      all_goals
                       go_region
                       all_goals go_wp2
                       go_ret2;refine⟨false,?_,?_⟩
                       · rw[HE1.out,HF.out]
                         first|rfl|simp
                       · rw[HE2.out,HF.out]
                         simp only[HG3.out];exact HK5.out
                    · go_region
                      all_goals go_wp2
                      go_ret2;refine⟨false,?_,?_⟩
                      · rw[HE1.out,HF.out]
                        first|rfl|simp
                      · rw[HE2.out,HF.out]
                        simp only[HG3.out];exact HK5.out
         · go_wp2
           go_quiet (first|(go_at_call 110;refine Calls.quiet_of_same (Less_any _ _ _)));go_wp2;have HD:Hid (scanDown (fun x=>!ltInt x dk[a]!) dk i2 j=j2):=by
            show _=_;rw[←HJ.out,down_stop (.inl hle2)]
           have HF:Hid (R=(j2,dk)):=by
            show _=_;rw[←HO.out,partLoop_eq ltInt a i j dk,HU.out,HD.out,if_pos (by omega)]
           (have haj2:a≤j2:=by omega);(have hj2n:j2<n:=by omega);have HK5:Hid (At blk off w0 (((wr.drewN nq).drew.setCell ⟨blk,off+j2,none⟩ (enc dk[a]!)).setCell ⟨blk,off+a,none⟩ (enc dk[j2]!)) n (swp dk j2 a)):=((HK4.out.drewN _).drew).swap (by omega) (by omega);by_cases hja:j2=a
           · subst hja
             try (exfalso;omega)
             all_goals
              go_region
              all_goals go_wp2
              go_ret2;refine⟨true,?_,?_⟩
              · rw[HE1.out,HF.out]
                first|rfl|simp
              · rw[HE2.out,HF.out]
                simp only[HG3.out];exact HK5.out
           · go_region
             all_goals go_wp2
             go_ret2;refine⟨true,?_,?_⟩
             · rw[HE1.out,HF.out]
               first|rfl|simp
             · rw[HE2.out,HF.out]
               simp only[HG3.out];exact HK5.out
    · go_wp2
      go_quiet (first|(go_at_call 110;refine Calls.quiet_of_same (Less_any _ _ _)));go_wp2;have HU:Hid (scanUp (fun x=>ltInt x dk[a]!) dk j i=i2):=by
       show _=_;rw[←HI.out,up_stop (.inl hle)]
      have HK3:Hid (At blk off w0 (wr.drewN nq) n dk):=HK2.out.drewN _
      go_loopw [11] (fun vj wr2=>∃(j2:Nat),vj = .int .i64 j2∧i2≤j2+1∧j2≤j∧At blk off w0 wr2 n dk∧scanDown (fun x=>!ltInt x dk[a]!) dk i2 j2=scanDown (fun x=>!ltInt x dk[a]!) dk i2 j) (fun vj _=>(intOf vj).toNat)
      case atStart=>exact⟨j,rfl,hi2j,Nat.le_refl _,HK3.out,rfl⟩
      case round=>
       obtain⟨j2,rfl,hij2,hj2,hAt3,hJ⟩:=hrel;obtain⟨G3,hG3,hcw3,hfw3⟩:=hAt3.fam;have HG3:Hid (∀t,G3 t=dk[t]!):=hG3;have HJ:Hid (scanDown (fun x=>!ltInt x dk[a]!) dk i2 j2=scanDown (fun x=>!ltInt x dk[a]!) dk i2 j):=hJ;have HK4:Hid (At blk off w0 wr n dk):=hAt3;clear hJ hAt3 hG3;by_cases hle2:i2≤j2
       · exfalso;omega
       · go_wp2
         go_quiet (first|(go_at_call 110;refine Calls.quiet_of_same (Less_any _ _ _)));go_wp2;have HD:Hid (scanDown (fun x=>!ltInt x dk[a]!) dk i2 j=j2):=by
          show _=_;rw[←HJ.out,down_stop (.inl hle2)]
         have HF:Hid (R=(j2,dk)):=by
          show _=_;rw[←HO.out,partLoop_eq ltInt a i j dk,HU.out,HD.out,if_pos (by omega)]
         (have haj2:a≤j2:=by omega);(have hj2n:j2<n:=by omega);have HK5:Hid (At blk off w0 (((wr.drewN nq).drew.setCell ⟨blk,off+j2,none⟩ (enc dk[a]!)).setCell ⟨blk,off+a,none⟩ (enc dk[j2]!)) n (swp dk j2 a)):=((HK4.out.drewN _).drew).swap (by omega) (by omega);by_cases hja:j2=a
         · subst hja
           try (exfalso;omega)
           all_goals
            go_region
            all_goals go_wp2
            go_ret2;refine⟨true,?_,?_⟩
            · rw[HE1.out,HF.out]
              first|rfl|simp
            · rw[HE2.out,HF.out]
              simp only[HG3.out];exact HK5.out
         · go_region
           all_goals go_wp2
           go_ret2;refine⟨true,?_,?_⟩
           · rw[HE1.out,HF.out]
             first|rfl|simp
           · rw[HE2.out,HF.out]
             simp only[HG3.out];exact HK5.out
 · go_region
   all_goals go_wp2
   try rw[hbj]
   go_loopw [10] (fun vi wr2=>∃(i2:Nat),vi = .int .i64 i2∧i≤i2∧i2≤j+1∧At blk off w0 wr2 n dk∧scanUp (fun x=>ltInt x dk[a]!) dk j i2=scanUp (fun x=>ltInt x dk[a]!) dk j i) (fun vi _=>(j+1-(intOf vi).toNat))
   case atStart=>exact⟨i,(by rw[←HI0.out];go_num),Nat.le_refl _,hij,(by simp only[HG.out];exact HSw.out),rfl⟩
   case round=>
    obtain⟨i2,rfl,hi2,hi2j,hAt2,hI⟩:=hrel;obtain⟨G2,hG2,hcw2,hfw2⟩:=hAt2.fam;have HG2:Hid (∀t,G2 t=dk[t]!):=hG2;have HI:Hid (scanUp (fun x=>ltInt x dk[a]!) dk j i2=scanUp (fun x=>ltInt x dk[a]!) dk j i):=hI;have HK2:Hid (At blk off w0 wr n dk):=hAt2;clear hI hAt2 hG2;by_cases hle:i2≤j
    · have hi2n:i2<n:=by omega
      go_wp2;go_quiet (first|(go_at_call 110;refine Calls.quiet_of_same (Less_any _ _ _)));go_wp2
      · have hl:ltInt (G2 i2) (G2 a)=true:=by assumption
        go_roundw
        (case rel=>exact⟨i2+1,by go_num,by omega,by omega,HK2.out.drewN _,by rw[←HI.out,←up_go hle (by show _=true;rw[←HG2.out,←HG2.out,hl])]⟩);case measure=>simp[intOf];omega
      · have hl:ltInt (G2 i2) (G2 a)=false:=by assumption
        have HU:Hid (scanUp (fun x=>ltInt x dk[a]!) dk j i=i2):=by
         show _=_;rw[←HI.out,up_stop (.inr (by show _=false;rw[←HG2.out,←HG2.out,hl]))]
        have HK3:Hid (At blk off w0 (wr.drewN nq) n dk):=HK2.out.drewN _
        go_loopw [11] (fun vj wr2=>∃(j2:Nat),vj = .int .i64 j2∧i2≤j2+1∧j2≤j∧At blk off w0 wr2 n dk∧scanDown (fun x=>!ltInt x dk[a]!) dk i2 j2=scanDown (fun x=>!ltInt x dk[a]!) dk i2 j) (fun vj _=>(intOf vj).toNat)
        case atStart=>exact⟨j,rfl,hi2j,Nat.le_refl _,HK3.out,rfl⟩
        case round=>
         obtain⟨j2,rfl,hij2,hj2,hAt3,hJ⟩:=hrel;obtain⟨G3,hG3,hcw3,hfw3⟩:=hAt3.fam;have HG3:Hid (∀t,G3 t=dk[t]!):=hG3;have HJ:Hid (scanDown (fun x=>!ltInt x dk[a]!) dk i2 j2=scanDown (fun x=>!ltInt x dk[a]!) dk i2 j):=hJ;have HK4:Hid (At blk off w0 wr n dk):=hAt3;clear hJ hAt3 hG3;by_cases hle2:i2≤j2
         · have hj2n:j2<n:=by omega
           go_wp2;go_quiet (first|(go_at_call 110;refine Calls.quiet_of_same (Less_any _ _ _)));go_wp2
           · have hl2:ltInt (G3 j2) (G3 a)=false:=by first|assumption|(refine bnot_t ?_;assumption)
             go_roundw
             (case rel=>exact⟨j2-1,by congr 1;omega,by omega,by omega,HK4.out.drewN _,by rw[←HJ.out,←down_go (by omega) hle2 (by show(!_)=true;rw[←HG3.out,←HG3.out,hl2];rfl)]⟩);case measure=>simp[intOf];omega
           · have hl2:ltInt (G3 j2) (G3 a)=true:=by first|assumption|(refine bnot_f ?_;assumption)|(refine bnot_n ?_;assumption)
             have HD:Hid (scanDown (fun x=>!ltInt x dk[a]!) dk i2 j=j2):=by
              show _=_;rw[←HJ.out,down_stop (.inr (by show(!_)=false;rw[←HG3.out,←HG3.out,hl2];rfl))]
             have hap2:i2<j2:=scans_apart (p:=fun x=>ltInt x dk[a]!) (fun x=>rfl) HU.out HD.out (by omega) hle2;clear hl2;go_region
             all_goals go_wp2
             have HN:Hid (partLoop ltInt a (i2+1) (j2-1) (swp dk i2 j2)=R):=by
              show _=_;rw[←HO.out,partLoop_eq ltInt a i j dk,HU.out,HD.out,if_neg (by omega)]
             have HK5:Hid (At blk off w0 (((wr.drewN nq).drew.setCell ⟨blk,off+i2,none⟩ (enc dk[j2]!)).setCell ⟨blk,off+j2,none⟩ (enc dk[i2]!)) n (swp dk i2 j2)):=((HK4.out.drewN _).drew).swap (by omega) (by omega)
             go_loopw [10,11] (fun vi vj wr=>∃(i j:Nat) (dk:Array Int),vi = .int .i64 i∧vj = .int .i64 j∧a<i∧i≤j+1∧j<b∧At blk off w0 wr n dk∧partLoop ltInt a i j dk=R) (fun vi vj _=>(intOf vj+1-intOf vi).toNat)
             case atStart=>exact⟨i2+1,j2-1,swp dk i2 j2,by go_num,by congr 1;omega,by omega,by omega,by omega,(by simp only[HG3.out];exact HK5.out),HN.out⟩
             case round=>
              clear HN HK5 HK4 hcw3 hfw3 HG3 HJ HD HU HK3 HK2 HI HG2 hcw2 hfw2 HO;clear hap2 hle2 hj2 hij2 hi2 hi2j;obtain⟨i,j,dk,rfl,rfl,hai,hij,hjb,hAt,hO⟩:=hrel;have HO:Hid (partLoop ltInt a i j dk=R):=hO;have HK:Hid (At blk off w0 wr n dk):=hAt;clear hO hAt;go_wp2
              go_loopw [10] (fun vi wr2=>∃(i2:Nat),vi = .int .i64 i2∧i≤i2∧i2≤j+1∧At blk off w0 wr2 n dk∧scanUp (fun x=>ltInt x dk[a]!) dk j i2=scanUp (fun x=>ltInt x dk[a]!) dk j i) (fun vi _=>(j+1-(intOf vi).toNat))
              case atStart=>exact⟨i,rfl,Nat.le_refl _,hij,HK.out,rfl⟩
              case round=>
               obtain⟨i2,rfl,hi2,hi2j,hAt2,hI⟩:=hrel;obtain⟨G2,hG2,hcw2,hfw2⟩:=hAt2.fam;have HG2:Hid (∀t,G2 t=dk[t]!):=hG2;have HI:Hid (scanUp (fun x=>ltInt x dk[a]!) dk j i2=scanUp (fun x=>ltInt x dk[a]!) dk j i):=hI;have HK2:Hid (At blk off w0 wr n dk):=hAt2;clear hI hAt2 hG2;by_cases hle:i2≤j
               · have hi2n:i2<n:=by omega
                 go_wp2;go_quiet (first|(go_at_call 110;refine Calls.quiet_of_same (Less_any _ _ _)));go_wp2
                 · have hl:ltInt (G2 i2) (G2 a)=true:=by assumption
                   go_roundw
                   (case rel=>exact⟨i2+1,by go_num,by omega,by omega,HK2.out.drewN _,by rw[←HI.out,←up_go hle (by show _=true;rw[←HG2.out,←HG2.out,hl])]⟩);case measure=>simp[intOf];omega
                 · have hl:ltInt (G2 i2) (G2 a)=false:=by assumption
                   have HU:Hid (scanUp (fun x=>ltInt x dk[a]!) dk j i=i2):=by
                    show _=_;rw[←HI.out,up_stop (.inr (by show _=false;rw[←HG2.out,←HG2.out,hl]))]
                   have HK3:Hid (At blk off w0 (wr.drewN nq) n dk):=HK2.out.drewN _
                   go_loopw [11] (fun vj wr2=>∃(j2:Nat),vj = .int .i64 j2∧i2≤j2+1∧j2≤j∧At blk off w0 wr2 n dk∧scanDown (fun x=>!ltInt x dk[a]!) dk i2 j2=scanDown (fun x=>!ltInt x dk[a]!) dk i2 j) (fun vj _=>(intOf vj).toNat)
                   case atStart=>exact⟨j,rfl,hi2j,Nat.le_refl _,HK3.out,rfl⟩
                   case round=>
                    obtain⟨j2,rfl,hij2,hj2,hAt3,hJ⟩:=hrel;obtain⟨G3,hG3,hcw3,hfw3⟩:=hAt3.fam;have HG3:Hid (∀t,G3 t=dk[t]!):=hG3;have HJ:Hid (scanDown (fun x=>!ltInt x dk[a]!) dk i2 j2=scanDown (fun x=>!ltInt x dk[a]!) dk i2 j):=hJ;have HK4:Hid (At blk off w0 wr n dk):=hAt3;clear hJ hAt3 hG3;by_cases hle2:i2≤j2
                    · have hj2n:j2<n:=by omega
                      go_wp2;go_quiet (first|(go_at_call 110;refine Calls.quiet_of_same (Less_any _ _ _)));go_wp2
                      · have hl2:ltInt (G3 j2) (G3 a)=false:=by first|assumption|(refine bnot_t ?_;assumption)
                        go_roundw
                        (case rel=>exact⟨j2-1,by congr 1;omega,by omega,by omega,HK4.out.drewN _,by rw[←HJ.out,←down_go (by omega) hle2 (by show(!_)=true;rw[←HG3.out,←HG3.out,hl2];rfl)]⟩);case measure=>simp[intOf];omega
                      · have hl2:ltInt (G3 j2) (G3 a)=true:=by first|assumption|(refine bnot_f ?_;assumption)|(refine bnot_n ?_;assumption)
                        have HD:Hid (scanDown (fun x=>!ltInt x dk[a]!) dk i2 j=j2):=by
                         show _=_;rw[←HJ.out,down_stop (.inr (by show(!_)=false;rw[←HG3.out,←HG3.out,hl2];rfl))]
                        have hap2:i2<j2:=scans_apart (p:=fun x=>ltInt x dk[a]!) (fun x=>rfl) HU.out HD.out (by omega) hle2;clear hl2;go_region
                        all_goals go_wp2
                        have HN:Hid (partLoop ltInt a (i2+1) (j2-1) (swp dk i2 j2)=R):=by
                         show _=_;rw[←HO.out,partLoop_eq ltInt a i j dk,HU.out,HD.out,if_neg (by omega)]
                        have HK5:Hid (At blk off w0 (((wr.drewN nq).drew.setCell ⟨blk,off+i2,none⟩ (enc dk[j2]!)).setCell ⟨blk,off+j2,none⟩ (enc dk[i2]!)) n (swp dk i2 j2)):=((HK4.out.drewN _).drew).swap (by omega) (by omega)
                        go_roundw
                        (case rel=>exact⟨i2+1,j2-1,swp dk i2 j2,by go_num,by congr 1;omega,by omega,by omega,by omega,(by simp only[HG3.out];exact HK5.out),HN.out⟩);case measure=>simp[intOf];omega
                    · go_wp2
                      go_quiet (first|(go_at_call 110;refine Calls.quiet_of_same (Less_any _ _ _)));go_wp2;have HD:Hid (scanDown (fun x=>!ltInt x dk[a]!) dk i2 j=j2):=by
                       show _=_;rw[←HJ.out,down_stop (.inl hle2)]
                      have HF:Hid (R=(j2,dk)):=by
                       show _=_;rw[←HO.out,partLoop_eq ltInt a i j dk,HU.out,HD.out,if_pos (by omega)]
                      (have haj2:a≤j2:=by omega);(have hj2n:j2<n:=by omega);have HK5:Hid (At blk off w0 (((wr.drewN nq).drew.setCell ⟨blk,off+j2,none⟩ (enc dk[a]!)).setCell ⟨blk,off+a,none⟩ (enc dk[j2]!)) n (swp dk j2 a)):=((HK4.out.drewN _).drew).swap (by omega) (by omega);by_cases hja:j2=a
                      · subst hja
                        try (exfalso;omega)
                        all_goals
                         go_region
                         all_goals go_wp2
                         go_ret2;refine⟨false,?_,?_⟩
                         · rw[HE1.out,HF.out]
                           first|rfl|simp
                         · rw[HE2.out,HF.out]
                           simp only[HG3.out];exact HK5.out
                      · go_region
                        all_goals go_wp2
                        go_ret2;refine⟨false,?_,?_⟩
                        · rw[HE1.out,HF.out]
                          first|rfl|simp
                        · rw[HE2.out,HF.out]
                          simp only[HG3.out];exact HK5.out
               · go_wp2
                 go_quiet (first|(go_at_call 110;refine Calls.quiet_of_same (Less_any _ _ _)));go_wp2;have HU:Hid (scanUp (fun x=>ltInt x dk[a]!) dk j i=i2):=by
                  show _=_;rw[←HI.out,up_stop (.inl hle)]
                 have HK3:Hid (At blk off w0 (wr.drewN nq) n dk):=HK2.out.drewN _
                 go_loopw [11] (fun vj wr2=>∃(j2:Nat),vj = .int .i64 j2∧i2≤j2+1∧j2≤j∧At blk off w0 wr2 n dk∧scanDown (fun x=>!ltInt x dk[a]!) dk i2 j2=scanDown (fun x=>!ltInt x dk[a]!) dk i2 j) (fun vj _=>(intOf vj).toNat)
                 case atStart=>exact⟨j,rfl,hi2j,Nat.le_refl _,HK3.out,rfl⟩
                 case round=>
                  obtain⟨j2,rfl,hij2,hj2,hAt3,hJ⟩:=hrel;obtain⟨G3,hG3,hcw3,hfw3⟩:=hAt3.fam;have HG3:Hid (∀t,G3 t=dk[t]!):=hG3;have HJ:Hid (scanDown (fun x=>!ltInt x dk[a]!) dk i2 j2=scanDown (fun x=>!ltInt x dk[a]!) dk i2 j):=hJ;have HK4:Hid (At blk off w0 wr n dk):=hAt3;clear hJ hAt3 hG3;by_cases hle2:i2≤j2
                  · exfalso;omega
                  · go_wp2
                    go_quiet (first|(go_at_call 110;refine Calls.quiet_of_same (Less_any _ _ _)));go_wp2;have HD:Hid (scanDown (fun x=>!ltInt x dk[a]!) dk i2 j=j2):=by
                     show _=_;rw[←HJ.out,down_stop (.inl hle2)]
                    have HF:Hid (R=(j2,dk)):=by
                     show _=_;rw[←HO.out,partLoop_eq ltInt a i j dk,HU.out,HD.out,if_pos (by omega)]
                    (have haj2:a≤j2:=by omega);(have hj2n:j2<n:=by omega);have HK5:Hid (At blk off w0 (((wr.drewN nq).drew.setCell ⟨blk,off+j2,none⟩ (enc dk[a]!)).setCell ⟨blk,off+a,none⟩ (enc dk[j2]!)) n (swp dk j2 a)):=((HK4.out.drewN _).drew).swap (by omega) (by omega);by_cases hja:j2=a
                    · subst hja
                      try (exfalso;omega)
                      all_goals
                       go_region
                       all_goals go_wp2
                       go_ret2;refine⟨false,?_,?_⟩
                       · rw[HE1.out,HF.out]
                         first|rfl|simp
                       · rw[HE2.out,HF.out]
                         simp only[HG3.out];exact HK5.out
                    · go_region
                      all_goals go_wp2
                      go_ret2;refine⟨false,?_,?_⟩
                      · rw[HE1.out,HF.out]
                        first|rfl|simp
                      · rw[HE2.out,HF.out]
                        simp only[HG3.out];exact HK5.out
         · go_wp2
           go_quiet (first|(go_at_call 110;refine Calls.quiet_of_same (Less_any _ _ _)));go_wp2;have HD:Hid (scanDown (fun x=>!ltInt x dk[a]!) dk i2 j=j2):=by
            show _=_;rw[←HJ.out,down_stop (.inl hle2)]
           have HF:Hid (R=(j2,dk)):=by
            show _=_;rw[←HO.out,partLoop_eq ltInt a i j dk,HU.out,HD.out,if_pos (by omega)]
           (have haj2:a≤j2:=by omega);(have hj2n:j2<n:=by omega);have HK5:Hid (At blk off w0 (((wr.drewN nq).drew.setCell ⟨blk,off+j2,none⟩ (enc dk[a]!)).setCell ⟨blk,off+a,none⟩ (enc dk[j2]!)) n (swp dk j2 a)):=((HK4.out.drewN _).drew).swap (by omega) (by omega);by_cases hja:j2=a
           · subst hja
             try (exfalso;omega)
             all_goals
              go_region
              all_goals go_wp2
              go_ret2;refine⟨true,?_,?_⟩
              · rw[HE1.out,HF.out]
                first|rfl|simp
              · rw[HE2.out,HF.out]
                simp only[HG3.out];exact HK5.out
           · go_region
             all_goals go_wp2
             go_ret2;refine⟨true,?_,?_⟩
             · rw[HE1.out,HF.out]
               first|rfl|simp
             · rw[HE2.out,HF.out]
               simp only[HG3.out];exact HK5.out
    · go_wp2
      go_quiet (first|(go_at_call 110;refine Calls.quiet_of_same (Less_any _ _ _)));go_wp2;have HU:Hid (scanUp (fun x=>ltInt x dk[a]!) dk j i=i2):=by
       show _=_;rw[←HI.out,up_stop (.inl hle)]
      have HK3:Hid (At blk off w0 (wr.drewN nq) n dk):=HK2.out.drewN _
      go_loopw [11] (fun vj wr2=>∃(j2:Nat),vj = .int .i64 j2∧i2≤j2+1∧j2≤j∧At blk off w0 wr2 n dk∧scanDown (fun x=>!ltInt x dk[a]!) dk i2 j2=scanDown (fun x=>!ltInt x dk[a]!) dk i2 j) (fun vj _=>(intOf vj).toNat)
      case atStart=>exact⟨j,rfl,hi2j,Nat.le_refl _,HK3.out,rfl⟩
      case round=>
       obtain⟨j2,rfl,hij2,hj2,hAt3,hJ⟩:=hrel;obtain⟨G3,hG3,hcw3,hfw3⟩:=hAt3.fam;have HG3:Hid (∀t,G3 t=dk[t]!):=hG3;have HJ:Hid (scanDown (fun x=>!ltInt x dk[a]!) dk i2 j2=scanDown (fun x=>!ltInt x dk[a]!) dk i2 j):=hJ;have HK4:Hid (At blk off w0 wr n dk):=hAt3;clear hJ hAt3 hG3;by_cases hle2:i2≤j2
       · exfalso;omega
       · go_wp2
         go_quiet (first|(go_at_call 110;refine Calls.quiet_of_same (Less_any _ _ _)));go_wp2;have HD:Hid (scanDown (fun x=>!ltInt x dk[a]!) dk i2 j=j2):=by
          show _=_;rw[←HJ.out,down_stop (.inl hle2)]
         have HF:Hid (R=(j2,dk)):=by
          show _=_;rw[←HO.out,partLoop_eq ltInt a i j dk,HU.out,HD.out,if_pos (by omega)]
         (have haj2:a≤j2:=by omega);(have hj2n:j2<n:=by omega);have HK5:Hid (At blk off w0 (((wr.drewN nq).drew.setCell ⟨blk,off+j2,none⟩ (enc dk[a]!)).setCell ⟨blk,off+a,none⟩ (enc dk[j2]!)) n (swp dk j2 a)):=((HK4.out.drewN _).drew).swap (by omega) (by omega);by_cases hja:j2=a
         · subst hja
           try (exfalso;omega)
           all_goals
            go_region
            all_goals go_wp2
            go_ret2;refine⟨true,?_,?_⟩
            · rw[HE1.out,HF.out]
              first|rfl|simp
            · rw[HE2.out,HF.out]
              simp only[HG3.out];exact HK5.out
         · go_region
           all_goals go_wp2
           go_ret2;refine⟨true,?_,?_⟩
           · rw[HE1.out,HF.out]
             first|rfl|simp
           · rw[HE2.out,HF.out]
             simp only[HG3.out];exact HK5.out
end SrtU
end Go.Proofs.YthecngkdmnadoaaGreat
