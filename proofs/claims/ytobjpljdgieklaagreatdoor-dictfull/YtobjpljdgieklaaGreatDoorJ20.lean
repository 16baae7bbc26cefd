import Derived.Test.YtobjpljdgieklaaGreatDoorJ17
import Derived.Deep.Cut
import Derived.Test.YtobjpljdgieklaaGreatDoorJ10
import Derived.Test.YtobjpljdgieklaaGreatDoorJ5
set_option maxRecDepth 100000
namespace Go.Proofs.YtobjpljdgieklaaGreatDoor
section
open Go.RowKit Nums Pm
structure PutAt6(l:List Pr)(p:Pr)(k:Nat)(done:Bool)(acc:List Pr):Prop where
 len:acc.length≤k+(if done then 1 else 0)
 eq:acc++putP zAa p done (l.drop k)=putP zAa p false l
theorem PutAt6.start(l:List Pr)(p:Pr):PutAt6 l p 0 false []:=⟨by simp,by simp⟩
theorem PutAt6.step{l:List Pr}{p:Pr}{k:Nat}{done:Bool}{acc:List Pr}(h:PutAt6 l p k done acc){x:Pr}(hx:l[k]?=some x):
 PutAt6 l p (k+1) (done||!(zAa x.1 p.1)) (acc++(if !done&&!(zAa x.1 p.1)then [p]else [])++(if x.1≠p.1 then [x]else [])):=by
 refine⟨?_,by rw[←h.eq,drop_at l k x hx,zUw]⟩;have:=h.len;cases done<;>cases zAa x.1 p.1<;>by_cases e:x.1=p.1<;>simp[e]at this ⊢<;>omega
theorem PutAt6.fin{l:List Pr}{p:Pr}{k:Nat}{done:Bool}{acc:List Pr}(h:PutAt6 l p k done acc)(hk:l.length≤k):acc++(if done then []else [p])=putP zAa p false l:=by
 rw[←h.eq,List.drop_eq_nil_of_le hk];rfl
set_option maxHeartbeats 4000000 in
theorem zSe(w:World)(v:Value)(l:List Pr)(p:Pr)(h:PRow w v l)(hl:l.length<549755813888)(hsm:Sm l)(hps:p.1.size≤9223372036854775807):
 Calls Tryz.prog 31 #[v,.agg #[.string p.1,.int .i64 p.2]] w fun e w'=>∃v',e = .returned v'∧POwn w.heap.size w' v' (put zAa l p)∧Below w.heap.size w w':=by
 obtain⟨ad,cap,rfl⟩:=h.form;have HR:Hid (PRow w (.slice ad l.length cap) l):=h;obtain⟨n,hn⟩:∃n,l.length=n:=⟨_,rfl⟩;have HN:Hid (l.length=n):=hn;have HS:Hid (Sm l):=hsm;have HPS:Hid (p.1.size≤9223372036854775807):=hps;rw[hn]at HR hl;clear h hsm hps;rw[hn];clear hn;go_enter Tryz.func31,Tryz.ntmps31;go_wp2;obtain⟨w1,hw1⟩:∃w1,w1=w.alloc (.cells #[.string p.1,.int .i64 p.2] 64):=⟨_,rfl⟩;rw[←hw1];have HW1:Hid (Below w.heap.size w w1):=by show Below _ _ _;rw[hw1];exact(Below.refl _ w).alloc (Nat.le_refl _) _
 have HTP:Hid (TwoAt w1 w.heap.size 0 p):=by show TwoAt _ _ _ _;rw[hw1];exact TwoAt.new w p _
 have HR1:Hid (PRow w1 (.slice ad n cap) l):=HR.out.below HW1.out;have hbp:w.heap.size<w1.heap.size:=by rw[hw1];simp
 have HFR:Hid (∀W v' m,POwn w1.heap.size W v' m→Below w1.heap.size w1 W→POwn w.heap.size W v' m∧Below w.heap.size w W):=fun W v' m h1 h2=>⟨h1.mono (by omega),HW1.out.trans (h2.mono (by omega))⟩
 clear hw1 HR HW1;generalize hbe:w.heap.size=bp at hbp HTP HFR;have HBE:Hid (w.heap.size=bp):=hbe;clear hbe
 go_loopg [5,6,7] n (fun g s5 s6 s7 wr=>∃(k:Nat) (done:Bool) (acc:List Pr),s6 = .bool done∧s7 = .int .i64 k∧k≤n∧n-k≤g∧Hid (PutAt6 l p k done acc)∧Hid (POwn w1.heap.size wr s5 acc)∧Hid (Below w1.heap.size w1 wr))
 case atStart=>exact⟨0,false,[],rfl,rfl,Nat.zero_le _,by omega,PutAt6.start l p,POwn.nil _ _,Below.refl _ _⟩
 case round=>
  obtain⟨k,done,acc,rfl,rfl,hk,hg,HP,HO,HB⟩:=hrel;by_cases hlt:k<n
  · have hltz:(k:Int)<(n:Int):=by omega
    obtain⟨x,hx⟩:∃x,l[k]?=some x:=⟨l[k]'(by have:=HN.out;omega),List.getElem?_eq_getElem _⟩;obtain⟨b,off,rfl,hb,hcell⟩:=HR1.out.at (by omega);have HX:Hid (l[k]?=some x):=hx;(have HT:Hid (∀W,Below w1.heap.size w1 W→TwoAt W b (off+k*2) x∧TwoAt W bp 0 p):=fun W hW=>⟨(hcell k x hx).below hb hW,HTP.out.below hbp hW⟩);(have hls:=fun W=>zNu x.1 p.1 W (HS.out.at hx) HPS.out);obtain⟨⟨c0,c1⟩,⟨d0,d1⟩⟩:=HT.out wr HB.out;rw[Nat.zero_add]at d1;(have HLZ0:Hid (acc.length≤k+1):=by have:=HP.out.len;show _≤_;cases done<;>simp at this<;>omega);clear hcell hx;cases done
    · cases hlx:zAa x.1 p.1
      · have HSTEP:Hid (∀tail,(if x.1≠p.1 then [x]else [])=tail→PutAt6 l p (k+1) true (acc++[p]++tail)):=by
         show ∀tail,_;intro tail ht;have h:=HP.out.step HX.out;rw[hlx,ht]at h;exact h
        rw[hlx]at hls;clear hlx;go_wp2_with fail;go_quiet (first|(go_at_call 43;refine Calls.quiet_of (hls _)));have HOq:Hid (POwn w1.heap.size (wr.drewN nq) u5 acc):=HO.out.below (belowN (Below.refl _ wr) nq);have hWn:(wr.drewN nq).heap.size=wr.heap.size:=rfl;have HBq:Hid (Below w1.heap.size w1 (wr.drewN nq)):=belowN HB.out nq;go_wp2_with (at_builtin;refine zCy (by rfl) _ _ p _ rfl w1.heap.size _ _ _ acc rfl HOq.out rfl hWn.symm (by have:=HLZ0.out;omega) HBq.out.size ?_);intro uz wz hr2 hb2;obtain⟨accz,hac⟩:∃accz,accz=acc++[p]:=⟨_,rfl⟩;(have HOz:Hid (POwn w1.heap.size wz uz accz):=by show POwn _ _ _ _;rw[hac];exact hr2);have HBz:Hid (Below w1.heap.size w1 wz):=HBq.out.trans hb2;(have HLZ:Hid (accz.length≤k+2):=by have:=HLZ0.out;show _≤_;rw[hac];simp;omega);rw[←hac]at HSTEP;obtain⟨⟨z0,z1⟩,⟨y0,y1⟩⟩:=HT.out wz HBz.out;rw[Nat.zero_add]at y1;obtain⟨dz,hdz⟩:∃dz,dz=true:=⟨_,rfl⟩;rw[←hdz]at HSTEP;have HDZ:Hid (dz=true):=hdz;clear hr2 hb2 hac HOq HBq hWn c0 c1 d0 d1 hdz;(go_upto_region 9 with fail);by_cases hxp:x.1=p.1
        · have hs:(x.1.toList==p.1.toList)=true:=by rw[zD0];exact decide_eq_true hxp
          have HST:Hid (PutAt6 l p (k+1) dz accz):=by
           have h:=HSTEP.out [] (if_neg (fun e=>e hxp));rw[List.append_nil]at h;exact h
          clear hxp;go_wp2_with fail;go_quiet (fail);have HOy:Hid (POwn w1.heap.size (wz.drewN nq) uz accz):=HOz.out.below (belowN (Below.refl _ wz) nq);have HBy:Hid (Below w1.heap.size w1 (wz.drewN nq)):=belowN HBz.out nq;go_wp2_with fail;go_roundg (n-(k+1));case measure=>omega
          case rel=>
           have HST2:=HST.out;rw[HDZ.out]at HST2;exact⟨k+1,_,_,rfl,by go_num,by omega,Nat.le_refl _,HST2,HOy,HBy⟩
        · have hs:(x.1.toList==p.1.toList)=false:=by rw[zD0];exact decide_eq_false hxp
          have HST:Hid (PutAt6 l p (k+1) dz (accz++[x])):=HSTEP.out [x] (if_pos hxp);clear hxp;go_wp2_with fail;go_quiet (fail);have HOq:Hid (POwn w1.heap.size (wz.drewN nq) uz accz):=HOz.out.below (belowN (Below.refl _ wz) nq);have hWn:(wz.drewN nq).heap.size=wz.heap.size:=rfl;have HBq:Hid (Below w1.heap.size w1 (wz.drewN nq)):=belowN HBz.out nq;go_wp2_with (at_builtin;refine zCy (by rfl) _ _ x _ rfl w1.heap.size _ _ _ accz rfl HOq.out rfl hWn.symm (by have:=HLZ.out;omega) HBq.out.size ?_);intro v4 w4 hr4 hb4;have HOy:Hid (POwn w1.heap.size w4 v4 (accz++[x])):=hr4;have HBy:Hid (Below w1.heap.size w1 w4):=HBq.out.trans hb4;clear hr4 hb4;go_wp2_with fail;go_roundg (n-(k+1));case measure=>omega
          case rel=>
           have HST2:=HST.out;rw[HDZ.out]at HST2;exact⟨k+1,_,_,rfl,by go_num,by omega,Nat.le_refl _,HST2,HOy,HBy⟩
      · have HSTEP:Hid (∀tail,(if x.1≠p.1 then [x]else [])=tail→PutAt6 l p (k+1) false (acc++tail)):=by
         show ∀tail,_;intro tail ht;have h:=HP.out.step HX.out;rw[hlx,ht]at h;simpa using h
        rw[hlx]at hls;clear hlx;go_wp2_with fail;go_quiet (first|(go_at_call 43;refine Calls.quiet_of (hls _)));obtain⟨accz,hac⟩:∃accz,accz=acc:=⟨_,rfl⟩;obtain⟨uz,huz⟩:∃uz,uz=u5:=⟨_,rfl⟩;obtain⟨dz,hdz⟩:∃dz,dz=false:=⟨_,rfl⟩;rw[←hac,←hdz]at HSTEP;rw[←hac,←huz]at HO;rw[←huz];have HDZ:Hid (dz=false):=hdz;(have HLZ:Hid (accz.length≤k+2):=by have:=HLZ0.out;show _≤_;rw[hac];omega);clear hac hdz huz;obtain⟨wz,hwz⟩:∃wz,wz=wr.drewN nq:=⟨_,rfl⟩;rw[←hwz];(have HOz:Hid (POwn w1.heap.size wz uz accz):=by show POwn _ _ _ _;rw[hwz];exact HO.out.below (belowN (Below.refl _ wr) nq));(have HBz:Hid (Below w1.heap.size w1 wz):=by show Below _ _ _;rw[hwz];exact belowN HB.out nq);obtain⟨⟨z0,z1⟩,⟨y0,y1⟩⟩:=HT.out wz HBz.out;rw[Nat.zero_add]at y1;clear hwz c0 c1 d0 d1;(go_upto_region 9 with fail);by_cases hxp:x.1=p.1
        · have hs:(x.1.toList==p.1.toList)=true:=by rw[zD0];exact decide_eq_true hxp
          have HST:Hid (PutAt6 l p (k+1) dz accz):=by
           have h:=HSTEP.out [] (if_neg (fun e=>e hxp));rw[List.append_nil]at h;exact h
          clear hxp;go_wp2_with fail;go_quiet (fail);have HOy:Hid (POwn w1.heap.size (wz.drewN nq) uz accz):=HOz.out.below (belowN (Below.refl _ wz) nq);have HBy:Hid (Below w1.heap.size w1 (wz.drewN nq)):=belowN HBz.out nq;go_wp2_with fail;go_roundg (n-(k+1));case measure=>omega
          case rel=>
           have HST2:=HST.out;rw[HDZ.out]at HST2;exact⟨k+1,_,_,rfl,by go_num,by omega,Nat.le_refl _,HST2,HOy,HBy⟩
        · have hs:(x.1.toList==p.1.toList)=false:=by rw[zD0];exact decide_eq_false hxp
          have HST:Hid (PutAt6 l p (k+1) dz (accz++[x])):=HSTEP.out [x] (if_pos hxp);clear hxp;go_wp2_with fail;go_quiet (fail);have HOq:Hid (POwn w1.heap.size (wz.drewN nq) uz accz):=HOz.out.below (belowN (Below.refl _ wz) nq);have hWn:(wz.drewN nq).heap.size=wz.heap.size:=rfl;have HBq:Hid (Below w1.heap.size w1 (wz.drewN nq)):=belowN HBz.out nq;go_wp2_with (at_builtin;refine zCy (by rfl) _ _ x _ rfl w1.heap.size _ _ _ accz rfl HOq.out rfl hWn.symm (by have:=HLZ.out;omega) HBq.out.size ?_);intro v4 w4 hr4 hb4;have HOy:Hid (POwn w1.heap.size w4 v4 (accz++[x])):=hr4;have HBy:Hid (Below w1.heap.size w1 w4):=HBq.out.trans hb4;clear hr4 hb4;go_wp2_with fail;go_roundg (n-(k+1));case measure=>omega
          case rel=>
           have HST2:=HST.out;rw[HDZ.out]at HST2;exact⟨k+1,_,_,rfl,by go_num,by omega,Nat.le_refl _,HST2,HOy,HBy⟩
    · have HSTEP:Hid (∀tail,(if x.1≠p.1 then [x]else [])=tail→PutAt6 l p (k+1) true (acc++tail)):=by
       show ∀tail,_;intro tail ht;have h:=HP.out.step HX.out;rw[ht]at h;simpa using h
      go_wp2_with fail;go_quiet (fail);obtain⟨accz,hac⟩:∃accz,accz=acc:=⟨_,rfl⟩;obtain⟨uz,huz⟩:∃uz,uz=u5:=⟨_,rfl⟩;obtain⟨dz,hdz⟩:∃dz,dz=true:=⟨_,rfl⟩;rw[←hac,←hdz]at HSTEP;rw[←hac,←huz]at HO;rw[←huz];have HDZ:Hid (dz=true):=hdz;(have HLZ:Hid (accz.length≤k+2):=by have:=HLZ0.out;show _≤_;rw[hac];omega);clear hac hdz huz;obtain⟨wz,hwz⟩:∃wz,wz=wr.drewN nq:=⟨_,rfl⟩;rw[←hwz];(have HOz:Hid (POwn w1.heap.size wz uz accz):=by show POwn _ _ _ _;rw[hwz];exact HO.out.below (belowN (Below.refl _ wr) nq));(have HBz:Hid (Below w1.heap.size w1 wz):=by show Below _ _ _;rw[hwz];exact belowN HB.out nq);obtain⟨⟨z0,z1⟩,⟨y0,y1⟩⟩:=HT.out wz HBz.out;rw[Nat.zero_add]at y1;clear hwz c0 c1 d0 d1;(go_upto_region 9 with fail);by_cases hxp:x.1=p.1
      · have hs:(x.1.toList==p.1.toList)=true:=by rw[zD0];exact decide_eq_true hxp
        have HST:Hid (PutAt6 l p (k+1) dz accz):=by
         have h:=HSTEP.out [] (if_neg (fun e=>e hxp));rw[List.append_nil]at h;exact h
        clear hxp;go_wp2_with fail;go_quiet (fail);have HOy:Hid (POwn w1.heap.size (wz.drewN nq) uz accz):=HOz.out.below (belowN (Below.refl _ wz) nq);have HBy:Hid (Below w1.heap.size w1 (wz.drewN nq)):=belowN HBz.out nq;go_wp2_with fail;go_roundg (n-(k+1));case measure=>omega
        case rel=>
         have HST2:=HST.out;rw[HDZ.out]at HST2;exact⟨k+1,_,_,rfl,by go_num,by omega,Nat.le_refl _,HST2,HOy,HBy⟩
      · have hs:(x.1.toList==p.1.toList)=false:=by rw[zD0];exact decide_eq_false hxp
        have HST:Hid (PutAt6 l p (k+1) dz (accz++[x])):=HSTEP.out [x] (if_pos hxp);clear hxp;go_wp2_with fail;go_quiet (fail);have HOq:Hid (POwn w1.heap.size (wz.drewN nq) uz accz):=HOz.out.below (belowN (Below.refl _ wz) nq);have hWn:(wz.drewN nq).heap.size=wz.heap.size:=rfl;have HBq:Hid (Below w1.heap.size w1 (wz.drewN nq)):=belowN HBz.out nq;go_wp2_with (at_builtin;refine zCy (by rfl) _ _ x _ rfl w1.heap.size _ _ _ accz rfl HOq.out rfl hWn.symm (by have:=HLZ.out;omega) HBq.out.size ?_);intro v4 w4 hr4 hb4;have HOy:Hid (POwn w1.heap.size w4 v4 (accz++[x])):=hr4;have HBy:Hid (Below w1.heap.size w1 w4):=HBq.out.trans hb4;clear hr4 hb4;go_wp2_with fail;go_roundg (n-(k+1));case measure=>omega
        case rel=>
         have HST2:=HST.out;rw[HDZ.out]at HST2;exact⟨k+1,_,_,rfl,by go_num,by omega,Nat.le_refl _,HST2,HOy,HBy⟩
  · have hltz:¬(k:Int)<(n:Int):=by omega
    cases done
    · have HF:Hid (acc++[p]=putP zAa p false l):=by show _=_;have:=HP.out.fin (by have:=HN.out;omega);simpa using this
      obtain⟨d0,d1⟩:=HTP.out.below hbp HB.out;rw[Nat.zero_add]at d1;(have HL0:Hid (acc.length≤k):=by have:=HP.out.len;show _≤_;simpa using this);go_wp2_with (at_builtin;refine zCy (by rfl) _ _ p _ rfl w1.heap.size _ _ _ acc rfl HO.out rfl rfl (by have:=HL0.out;omega) HB.out.size ?_);intro v2 w2 hr2 hb2;go_wp2_with fail;go_ret;obtain⟨r1,r2⟩:=HFR.out _ _ _ hr2 (HB.out.trans hb2);rw[HBE.out];refine⟨_,rfl,?_,r2⟩;show POwn _ _ _ (putP zAa p false l);rw[←HF.out];exact r1
    · have HF:Hid (acc=putP zAa p false l):=by show _=_;have:=HP.out.fin (by have:=HN.out;omega);simpa using this
      go_wp2;go_ret;obtain⟨r1,r2⟩:=HFR.out _ _ _ HO.out HB.out;rw[HBE.out];refine⟨_,rfl,?_,r2⟩;show POwn _ _ _ (putP zAa p false l);rw[←HF.out];exact r1
end
section
open Go.RowKit Go.Shelf Go.Lib Go.Sort Pm
namespace Mg
def cfW(a b:ByteArray):Int:=if zAa a b then -1 else if zAa b a then 1 else 0
theorem cfW_lt{a b:ByteArray}(h:zAa a b=true):cfW a b = -1:=by unfold cfW;rw[if_pos h]
theorem cfW_ge{a b:ByteArray}(h:zAa a b=false):¬cfW a b<0:=by unfold cfW;rw[h];cases zAa b a<;>decide
theorem cfW_eq(a b:ByteArray):cfW a b=0↔a=b:=by
 unfold cfW;constructor
 · intro h
   cases e1:zAa a b
   · cases e2:zAa b a
     · exact lessB_sto.tot _ _ e1 e2
     · rw[e1,e2]at h;simp at h
   · rw[e1]at h;simp at h
 · rintro rfl
   rw[lessB_sto.irr];rfl
theorem zPn(w:World)(o:Obj):Below w.heap.size w (w.alloc o):=(Below.refl _ w).alloc (Nat.le_refl _) _
theorem zRm(x:Pr)(s:ByteArray)(W:World):Calls Tryz.prog 121 #[.agg #[.string x.1,.int .i64 x.2],.string s] W fun e w'=>e = .returned (.int .i64 (cfW x.1 s))∧Below W.heap.size W w':=by
 have h1:∀W',Calls Tryz.prog 82 #[.string x.1,.string s] W' fun e w'=>e = .returned (.int .i64 (cfW x.1 s))∧w'=W':=fun W'=>Mq.inOrder_any x.1 s W'
 generalize cfW x.1 s=c at h1 ⊢;go_enter Tryz.func121,Tryz.ntmps121;go_wp2_with (go_at_call 82;refine(h1 _).mono ?_;rintro e w' ⟨rfl,rfl⟩);go_ret;exact⟨rfl,zPn _ _⟩
def hasW(C:List Pr)(s:ByteArray):Bool:=decide (∃p∈C,p.1=s)
theorem has_at{C:List Pr}{s:ByteArray}(hC:SUp zAa C)(i:Nat)(x:Pr)(hx:C[i]?=some x)(h1:∀k y,k<i→C[k]?=some y→zAa y.1 s=true)(h2:zAa x.1 s=false):hasW C s=(cfW x.1 s==0):=by
 unfold hasW;rw[Bool.eq_iff_iff,decide_eq_true_iff,beq_iff_eq,cfW_eq];constructor
 · rintro⟨p,hp,rfl⟩
   obtain⟨k,hk⟩:=List.getElem?_of_mem hp;rcases Nat.lt_trichotomy k i with h|h|h
   · have:=h1 k p h hk
     rw[lessB_sto.irr]at this;cases this
   · subst h;rw[hk]at hx;exact(congrArg Prod.fst (Option.some.inj hx)).symm
   · obtain⟨hil,hie⟩:=List.getElem?_eq_some_iff.1 hx
     obtain⟨hkl,hke⟩:=List.getElem?_eq_some_iff.1 hk;have:=List.pairwise_iff_getElem.1 hC i k hil hkl h;rw[hie,hke,h2]at this;cases this
 · intro e
   exact⟨x,List.mem_of_getElem? hx,e⟩
theorem has_none{C:List Pr}{s:ByteArray}(i:Nat)(hi:C.length≤i)(h1:∀k y,k<i→C[k]?=some y→zAa y.1 s=true):hasW C s=false:=by
 unfold hasW;rw[decide_eq_false_iff_not];rintro⟨p,hp,rfl⟩;obtain⟨k,hk⟩:=List.getElem?_of_mem hp;have:=h1 k p (by have:=(List.getElem?_eq_some_iff.1 hk).1;omega) hk;rw[lessB_sto.irr]at this;cases this
theorem low_next{C:List Pr}{s:ByteArray}(hC:SUp zAa C){h:Nat}{y:Pr}(hy:C[h]?=some y)(hv:zAa y.1 s=true):∀k z,k<h+1→C[k]?=some z→zAa z.1 s=true:=fun k z hk hz=>by
 by_cases e:k=h
 · subst e;rw[hz]at hy;rw[Option.some.inj hy];exact hv
 · obtain⟨h1,e1⟩:=List.getElem?_eq_some_iff.1 hy
   obtain⟨h2,e2⟩:=List.getElem?_eq_some_iff.1 hz;have:=List.pairwise_iff_getElem.1 hC k h h2 h1 (by omega);rw[e1,e2]at this;exact lessB_sto.tr _ _ _ this hv
attribute [local go_sem ↓] exec_load_P exec_store_P
set_option maxHeartbeats 2000000 in
theorem zR8(w:World)(v:Value)(C:List Pr)(s:ByteArray)(hr:PRow w v C)(hC:SUp zAa C)(hl:C.length<549755813888):
 Calls Tryz.prog 120 #[v,.string s,.func (.func 121) #[] #[]] w fun e w'=>∃i,e = .returned (.tuple #[.int .i64 i,.bool (hasW C s)])∧Below w.heap.size w w':=by
 obtain⟨ad,cap,rfl,_⟩:=id hr;obtain⟨n,hn⟩:∃n,C.length=n:=⟨_,rfl⟩;have HN:Hid (C.length=n):=hn;rw[hn]at hr hl ⊢;have HROW:Hid (PRow w (.slice ad n cap) C):=hr;have HC:Hid (SUp zAa C):=hC;clear hr hC hn;go_enter Tryz.func120,Tryz.ntmps120;go_wp2
 go_loopg [9,10] n (fun g s9 s10 wr=>∃(i j:Nat),s9 = .int .i64 i∧s10 = .int .i64 j∧i≤j∧j≤n∧j-i≤g∧Hid (Below w.heap.size w wr)∧Hid ((∀k y,k<i→C[k]?=some y→zAa y.1 s=true)∧(∀y,C[j]?=some y→zAa y.1 s=false)))
 case atStart=>exact⟨0,n,rfl,rfl,Nat.zero_le _,Nat.le_refl _,by omega,Below.refl _ _,fun k y hk=>by omega,fun y hy=>by have:=(List.getElem?_eq_some_iff.1 hy).1;have:=HN.out;omega⟩
 case round=>
  obtain⟨i,j,rfl,rfl,hij,hjn,hg,HB,H⟩:=hrel;by_cases hlt:i<j
  · have hltz:(i:Int)<(j:Int):=by omega
    obtain⟨h,hh⟩:∃h,h=(i+j)/2:=⟨_,rfl⟩;(have ehz:((i:Int)+(j:Int))/2=(h:Int):=by omega);(have hih:i≤h:=by omega);(have hhj:h<j:=by omega);clear hh;(have rh:IntKind.i64.wrap (h:Int)=(h:Int):=by rw[IntKind.wrap_i64];omega);(have ph:(0:Int)≤(h:Int):=by omega);(have bh:(h:Int)<(n:Int):=by omega);(have eh:(h:Int).toNat=h:=by omega);obtain⟨y,hy⟩:∃y,C[h]?=some y:=⟨C[h]'(by have:=HN.out;omega),List.getElem?_eq_getElem _⟩;have HY:Hid (C[h]?=some y):=hy;obtain⟨g0,off,hgo,hg0,hc⟩:=(HROW.out.below HB.out).at (by omega);subst hgo;have hld:=(hc h y hy).load;have HCM:Hid (Calls Tryz.prog 121 #[valP y,.string s] wr fun e w'=>e = .returned (.int .i64 (cfW y.1 s))∧Below wr.heap.size wr w'):=zRm y s wr;clear hc hg0 hy;cases hv:zAa y.1 s
    · have hv1:¬cfW y.1 s<0:=cfW_ge hv
      have HV:Hid (zAa y.1 s=false):=hv;clear hv;go_wp2_with (first|(go_at_fn 121;refine HCM.out.mono ?_;rintro e w2 ⟨rfl,hb2⟩;have HB2:Hid (Below w.heap.size w w2):=HB.out.trans (hb2.mono HB.out.size);clear hb2)|(go_at_call 121;refine HCM.out.mono ?_;rintro e w2 ⟨rfl,hb2⟩;have HB2:Hid (Below w.heap.size w w2):=HB.out.trans (hb2.mono HB.out.size);clear hb2));go_roundg (h-i);(case measure=>omega);case rel=>exact⟨i,h,rfl,by first|rfl|go_num,hih,by omega,Nat.le_refl _,HB2,H.out.1,fun z hz=>by have e:=HY.out;rw[hz]at e;rw[Option.some.inj e];exact HV.out⟩
    · have hv1:cfW y.1 s = -1:=cfW_lt hv
      have HV:Hid (zAa y.1 s=true):=hv;rw[hv1]at HCM;clear hv hv1;go_wp2_with (first|(go_at_fn 121;refine HCM.out.mono ?_;rintro e w2 ⟨rfl,hb2⟩;have HB2:Hid (Below w.heap.size w w2):=HB.out.trans (hb2.mono HB.out.size);clear hb2)|(go_at_call 121;refine HCM.out.mono ?_;rintro e w2 ⟨rfl,hb2⟩;have HB2:Hid (Below w.heap.size w w2):=HB.out.trans (hb2.mono HB.out.size);clear hb2));go_roundg (j-(h+1));(case measure=>omega);case rel=>exact⟨h+1,j,by go_num,rfl,by omega,hjn,Nat.le_refl _,HB2,low_next HC.out HY.out HV.out,H.out.2⟩
  · have hltz:¬(i:Int)<(j:Int):=by omega
    (obtain rfl:i=j:=by omega);by_cases hin:i<n
    · have hinz:(i:Int)<(n:Int):=by omega
      obtain⟨y,hy⟩:∃y,C[i]?=some y:=⟨C[i]'(by have:=HN.out;omega),List.getElem?_eq_getElem _⟩;obtain⟨g0,off,hgo,hg0,hc⟩:=(HROW.out.below HB.out).at (by omega);subst hgo;have HHA:Hid (hasW C s=(cfW y.1 s==0)):=has_at HC.out i y hy H.out.1 (H.out.2 y hy);have hld:=(hc i y hy).load;have HCM:Hid (Calls Tryz.prog 121 #[valP y,.string s] wr fun e w'=>e = .returned (.int .i64 (cfW y.1 s))∧Below wr.heap.size wr w'):=zRm y s wr;clear hc hg0 hy;generalize cfW y.1 s=c at HCM HHA;go_wp2_with (first|(go_at_fn 121;refine HCM.out.mono ?_;rintro e w2 ⟨rfl,hb2⟩;have HB2:Hid (Below w.heap.size w w2):=HB.out.trans (hb2.mono HB.out.size);clear hb2)|(go_at_call 121;refine HCM.out.mono ?_;rintro e w2 ⟨rfl,hb2⟩;have HB2:Hid (Below w.heap.size w w2):=HB.out.trans (hb2.mono HB.out.size);clear hb2));go_ret2;exact⟨_,by rw[HHA.out];rfl,HB2.out⟩
    · have hinz:¬(i:Int)<(n:Int):=by omega
      have HHA:Hid (hasW C s=false):=has_none i (by have:=HN.out;omega) H.out.1;go_wp2;go_ret2;first|exact⟨_,by rw[HHA.out];rfl,HB.out⟩|exact⟨⟨_,by rw[HHA.out];rfl⟩,HB.out⟩
theorem zPf(w:World)(v:Value)(C:List Pr)(s:ByteArray)(hr:PRow w v C)(hC:SUp zAa C)(hl:C.length<549755813888):
 Calls Tryz.prog 78 #[v,.string s] w fun e w'=>e = .returned (.bool (hasW C s))∧Below w.heap.size w w':=by
 have h1:=zR8 w v C s hr hC hl;clear hr hC hl;generalize hasW C s=b at h1 ⊢;go_enter Tryz.func78,Tryz.ntmps78;go_wp2_with (go_at_call 120;refine h1.mono ?_;rintro e w2 ⟨i,rfl,hb2⟩);go_ret;exact⟨rfl,hb2⟩
end Mg
end
