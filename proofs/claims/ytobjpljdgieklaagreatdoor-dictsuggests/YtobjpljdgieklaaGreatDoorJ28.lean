import Derived.Test.YtobjpljdgieklaaGreatDoorJ15
import Derived.Test.YtobjpljdgieklaaGreatDoorJ24
import Derived.Deep.Cut
set_option maxRecDepth 100000
namespace Go.Proofs.YtobjpljdgieklaaGreatDoor
section
open Go.RowKit Go.Shelf Go.Lib Go.Sort Pm
theorem zNh{wr w2:World}{g o:Nat}{y z:Pr}{T:TypeId}(hb:Below (wr.alloc (.cells #[.string y.1,.int .i64 y.2] T)).heap.size (wr.alloc (.cells #[.string y.1,.int .i64 y.2] T)) w2)(hg:g<wr.heap.size)(d0:wr.cell? ⟨g,o,none⟩=some (.string z.1))(d1:wr.cell? ⟨g,o+1,none⟩=some (.int .i64 z.2))(f0:wr.frozen? ⟨g,o,none⟩=false)(f1:wr.frozen? ⟨g,o+1,none⟩=false):
 w2.cell? ⟨wr.heap.size,0,none⟩=some (.string y.1)∧w2.cell? ⟨wr.heap.size,1,none⟩=some (.int .i64 y.2)∧w2.cell? ⟨g,o,none⟩=some (.string z.1)∧w2.cell? ⟨g,o+1,none⟩=some (.int .i64 z.2)∧w2.frozen? ⟨g,o,none⟩=false∧w2.frozen? ⟨g,o+1,none⟩=false:=by
 have t:=(TwoAt.new wr y T).below (by simp) hb;have hb3:Below wr.heap.size wr w2:=((Below.refl _ wr).alloc (Nat.le_refl _) _).trans (hb.mono (by simp));have hblk:=hb3.block g hg;refine⟨t.c0,t.c1,(hb3.cell (p:=⟨g,o,none⟩) hg).trans d0,(hb3.cell (p:=⟨g,o+1,none⟩) hg).trans d1,?_,?_⟩
 · rw[←f0];simp[World.frozen?,hblk]
 · rw[←f1];simp[World.frozen?,hblk]
set_option maxHeartbeats 1000000 in
theorem zJa(B:Nat)(w:World)(v:Value)(l:List Pr)(h:POwn B w v l)(hl:l.length<549755813888)(hB:B≤w.heap.size):
 Calls Tryz.prog 95 #[v,.func (.func 97) #[] #[]] w fun e w'=>∃v',e = .returned v'∧POwn B w' v' (keep l)∧Below B w w':=by
 obtain⟨ad,cap,rfl⟩:=h.shape;have hix:=zLj w (.slice ad l.length cap) l h.row hl;have eg:∀args w,(callFunc 97 args).run Tryz.prog w = .ok (.enter 97 args) w:=enters_of Tryz.func97 (by kernel_rfl) rfl;have HO:Hid (POwn B w (.slice ad l.length cap) l):=h;clear h;go_enter Tryz.func95,Tryz.ntmps95
 go_upto_if 12 with(go_at_call 133;refine hix.mono ?_;rintro e w1 ⟨r,rfl,hb1,hres⟩)
 rcases hres with⟨rfl,hall⟩|⟨P,x,S,hpx,hP,hx0,rfl⟩
 · have HK:Hid (keep l=l):=zQz hall
   clear hall;go_wp2;go_ret;refine⟨_,rfl,?_,hb1.mono hB⟩;rw[HK.out];exact HO.out.below hb1
 · obtain⟨g,hg⟩:∃g,ad=some ⟨g,0,none⟩:=by
    obtain⟨_,⟨e,h0⟩|⟨g,cap,cur,e,_⟩⟩:=HO.out
    · rw[hpx]at h0;simp at h0
    · simp only[Value.slice.injEq]at e
      exact⟨g,e.1⟩
   subst hg;have HO1:Hid (POwn B w1 (.slice (some ⟨g,0,none⟩) l.length cap) l):=HO.out.below hb1;have HB1:Hid (Below B w w1):=hb1.mono hB;obtain⟨n,hn⟩:∃n,l.length=n:=⟨_,rfl⟩;(have HD:Hid (DelAt l P.length (P.length+1) n l):=by show DelAt _ _ _ _ _;rw[hpx];exact DelAt.start hP hx0 (by rw[←hpx];exact hn));have HN:Hid (l.length=n):=hn;(have hp0:¬((P.length:Int) = -1):=by omega);have hp0b:((P.length:Int) == -1)=false:=beq_eq_false_iff_ne.2 hp0;(have hPn:P.length<n:=by rw[←hn,hpx];simp);obtain⟨i0,hi0⟩:∃i0,P.length=i0:=⟨_,rfl⟩;rw[hn]at HO1 hl;rw[hi0]at HD hp0 hp0b hPn;clear hb1 hpx hP hx0 hix HO;rw[hi0,hn];clear hi0 hn;go_wp2
   go_loopg [5,6,7] n (fun g2 s5 s6 _ wr=>∃(i j:Nat) (m:List Pr),s5 = .int .i64 i∧s6 = .int .i64 j∧i<j∧j≤n∧n-j≤g2∧Hid (DelAt l i j n m)∧Hid (POwn B wr (.slice (some ⟨g,0,none⟩) n cap) m)∧Hid (Below B w wr))
   case atStart=>exact⟨i0,i0+1,l,rfl,by go_num,by omega,by omega,by omega,HD,HO1,HB1⟩
   case round=>
    clear HD HO1 HB1;obtain⟨i,j,m,rfl,rfl,hij,hjn,hg2,HD,HO,HB⟩:=hrel;by_cases hlt:j<n
    · have hltz:(j:Int)<(n:Int):=by omega
      obtain⟨y,hy⟩:∃y,l[j]?=some y:=⟨l[j]'(by have:=HN.out;omega),List.getElem?_eq_getElem _⟩;have HY:Hid (l[j]?=some y):=hy;obtain⟨cur,hBg,hh,e1,e2,e3,e4,hcell,hf⟩:=HO.out.block;have hgs:g<wr.heap.size:=(Array.getElem?_eq_some_iff.1 hh).1;obtain⟨c0,c1⟩:=hcell j y (HD.out.at hy);obtain⟨z,hz⟩:∃z,m[i]?=some z:=⟨m[i]'(by have:=HD.out.mlen;omega),List.getElem?_eq_getElem _⟩;obtain⟨d0,d1⟩:=hcell i z hz;have f0:=hf (i*2);have f1:=hf (i*2+1);(have hc:=fun W=>zE9 y.1 y.2 W);clear hh e1 e2 e3 e4 hcell hf hy hz;by_cases h0:y.2=0
      · have h0b:(y.2==0)=true:=beq_iff_eq.2 h0
        have HS:Hid (DelAt l i (j+1) n m):=HD.out.skip HY.out h0;clear h0;go_wp2_with (first|(go_at_fn 97;refine(hc _).mono ?_;rintro e w2 ⟨rfl,hb2⟩)|(go_at_call 97;refine(hc _).mono ?_;rintro e w2 ⟨rfl,hb2⟩));go_roundg (n-(j+1));case measure=>omega
        case rel=>
         have hb3:=((Below.refl _ wr).alloc (Nat.le_refl _) _).trans (hb2.mono (by simp));exact⟨i,j+1,m,rfl,by go_num,by omega,by omega,Nat.le_refl _,HS,HO.out.below hb3,HB.out.trans (hb3.mono (Nat.le_trans hB HB.out.size))⟩
      · have h0b:(y.2==0)=false:=beq_eq_false_iff_ne.2 h0
        have HS:Hid (DelAt l (i+1) (j+1) n (m.set i y)):=HD.out.put HY.out h0;clear h0;go_wp2_with (first|(go_at_fn 97;refine(hc _).mono ?_;rintro e w2 ⟨rfl,hb2⟩;obtain⟨q0,q1,q2,q3,q4,q5⟩:=zNh hb2 hgs d0 d1 f0 f1)|(go_at_call 97;refine(hc _).mono ?_;rintro e w2 ⟨rfl,hb2⟩;obtain⟨q0,q1,q2,q3,q4,q5⟩:=zNh hb2 hgs d0 d1 f0 f1));have hb3:=((Below.refl _ wr).alloc (Nat.le_refl _) _).trans (hb2.mono (by simp));have HO2:Hid (POwn B (w2.setCells g (i*2) (encP y)) (.slice (some ⟨g,0,none⟩) n cap) (m.set i y)):=(HO.out.below hb3).set i y;have HB2:Hid (Below B w (w2.setCells g (i*2) (encP y))):=zCy hBg _ _ _ _ (HB.out.trans (hb3.mono (Nat.le_trans hB HB.out.size)));go_roundg (n-(j+1));(case measure=>omega);case rel=>exact⟨i+1,j+1,m.set i y,by go_num,by go_num,by omega,by omega,Nat.le_refl _,HS,HO2.out,HB2.out⟩
    · have hltz:¬(j:Int)<(n:Int):=by omega
      obtain⟨cur,hBg,hh,e1,e2,e3,e4,hcell,hf⟩:=HO.out.block;(have hic:i<cap:=by omega);(have hin:i<n:=by omega);obtain⟨k,hk⟩:∃k,i+k=n:=⟨n-i,by omega⟩;have HF:Hid (m.take i=keep l):=HD.out.fin hlt;obtain⟨vs,hvs⟩:=zW4 HO.out i k (cap-i) hk 0;have HO2:Hid (POwn B (wr.setCells g (i*2) vs) (.slice (some ⟨g,0,none⟩) i cap) (m.take i)):=HO.out.cut i (by omega) vs;have HB2:Hid (Below B w (wr.setCells g (i*2) vs)):=zCy hBg _ _ _ _ HB.out;(have eni:n-i=k:=by omega);(have eniz:(n:Int)-(i:Int)=(k:Int):=by omega);clear hh e1 e2 e3 e4 hcell hf;go_wp2;go_ret;refine⟨_,rfl,?_,HB2.out⟩;rw[←HF.out];exact HO2.out
end
section
open Go.RowKit Nums Pm
structure PutAt6(l:List Pr)(p:Pr)(k:Nat)(done:Bool)(acc:List Pr):Prop where
 len:acc.length≤k+(if done then 1 else 0)
 eq:acc++putP zAa p done (l.drop k)=putP zAa p false l
theorem PutAt6.start(l:List Pr)(p:Pr):PutAt6 l p 0 false []:=⟨by simp,by simp⟩
theorem PutAt6.step{l:List Pr}{p:Pr}{k:Nat}{done:Bool}{acc:List Pr}(h:PutAt6 l p k done acc){x:Pr}(hx:l[k]?=some x):
 PutAt6 l p (k+1) (done||!(zAa x.1 p.1)) (acc++(if !done&&!(zAa x.1 p.1)then [p]else [])++(if x.1≠p.1 then [x]else [])):=by
 refine⟨?_,by rw[←h.eq,drop_at l k x hx,zUf]⟩;have:=h.len;cases done<;>cases zAa x.1 p.1<;>by_cases e:x.1=p.1<;>simp[e]at this ⊢<;>omega
theorem PutAt6.fin{l:List Pr}{p:Pr}{k:Nat}{done:Bool}{acc:List Pr}(h:PutAt6 l p k done acc)(hk:l.length≤k):acc++(if done then []else [p])=putP zAa p false l:=by
 rw[←h.eq,List.drop_eq_nil_of_le hk];rfl
set_option maxHeartbeats 4000000 in
theorem zR6(w:World)(v:Value)(l:List Pr)(p:Pr)(h:PRow w v l)(hl:l.length<549755813888)(hsm:Sm l)(hps:p.1.size≤9223372036854775807):
 Calls Tryz.prog 31 #[v,.agg #[.string p.1,.int .i64 p.2]] w fun e w'=>∃v',e = .returned v'∧POwn w.heap.size w' v' (put zAa l p)∧Below w.heap.size w w':=by
 obtain⟨ad,cap,rfl⟩:=h.form;have HR:Hid (PRow w (.slice ad l.length cap) l):=h;obtain⟨n,hn⟩:∃n,l.length=n:=⟨_,rfl⟩;have HN:Hid (l.length=n):=hn;have HS:Hid (Sm l):=hsm;have HPS:Hid (p.1.size≤9223372036854775807):=hps;rw[hn]at HR hl;clear h hsm hps;rw[hn];clear hn;go_enter Tryz.func31,Tryz.ntmps31;go_wp2;obtain⟨w1,hw1⟩:∃w1,w1=w.alloc (.cells #[.string p.1,.int .i64 p.2] 64):=⟨_,rfl⟩;rw[←hw1];have HW1:Hid (Below w.heap.size w w1):=by show Below _ _ _;rw[hw1];exact(Below.refl _ w).alloc (Nat.le_refl _) _
 have HTP:Hid (TwoAt w1 w.heap.size 0 p):=by show TwoAt _ _ _ _;rw[hw1];exact TwoAt.new w p _
 have HR1:Hid (PRow w1 (.slice ad n cap) l):=HR.out.below HW1.out;have hbp:w.heap.size<w1.heap.size:=by rw[hw1];simp
 have HFR:Hid (∀W v' m,POwn w1.heap.size W v' m→Below w1.heap.size w1 W→POwn w.heap.size W v' m∧Below w.heap.size w W):=fun W v' m h1 h2=>⟨h1.mono (by omega),HW1.out.trans (h2.mono (by omega))⟩
 clear hw1 HR HW1;generalize hbe:w.heap.size=bp at hbp HTP HFR;have HBE:Hid (w.heap.size=bp):=hbe;clear hbe
 go_loopg [5,6,7] n (fun g s5 s6 s7 wr=>∃(k:Nat) (done:Bool) (acc:List Pr),s6 = .bool done∧s7 = .int .i64 k∧k≤n∧n-k≤g∧Hid (PutAt6 l p k done acc)∧Hid (POwn w1.heap.size wr s5 acc)∧Hid (Below w1.heap.size w1 wr))
 case atStart=>exact⟨0,false,[],rfl,rfl,Nat.zero_le _,by omega,PutAt6.start l p,POwn.nil _ _,Below.refl _ _⟩
 case round=>
  obtain⟨k,done,acc,rfl,rfl,hk,hg,HP,HO,HB⟩:=hrel;by_cases hlt:k<n
  · have hltz:(k:Int)<(n:Int):=by omega
    obtain⟨x,hx⟩:∃x,l[k]?=some x:=⟨l[k]'(by have:=HN.out;omega),List.getElem?_eq_getElem _⟩;obtain⟨b,off,rfl,hb,hcell⟩:=HR1.out.at (by omega);have HX:Hid (l[k]?=some x):=hx;(have HT:Hid (∀W,Below w1.heap.size w1 W→TwoAt W b (off+k*2) x∧TwoAt W bp 0 p):=fun W hW=>⟨(hcell k x hx).below hb hW,HTP.out.below hbp hW⟩);(have hls:=fun W=>zIp x.1 p.1 W (HS.out.at hx) HPS.out);obtain⟨⟨c0,c1⟩,⟨d0,d1⟩⟩:=HT.out wr HB.out;rw[Nat.zero_add]at d1;(have HLZ0:Hid (acc.length≤k+1):=by have:=HP.out.len;show _≤_;cases done<;>simp at this<;>omega);clear hcell hx;cases done
    · cases hlx:zAa x.1 p.1
      · have HSTEP:Hid (∀tail,(if x.1≠p.1 then [x]else [])=tail→PutAt6 l p (k+1) true (acc++[p]++tail)):=by
         show ∀tail,_;intro tail ht;have h:=HP.out.step HX.out;rw[hlx,ht]at h;exact h
        rw[hlx]at hls;clear hlx;go_wp2_with fail;go_quiet (first|(go_at_call 43;refine Calls.quiet_of (hls _)));have HOq:Hid (POwn w1.heap.size (wr.drewN nq) u5 acc):=HO.out.below (belowN (Below.refl _ wr) nq);have hWn:(wr.drewN nq).heap.size=wr.heap.size:=rfl;have HBq:Hid (Below w1.heap.size w1 (wr.drewN nq)):=belowN HB.out nq;go_wp2_with (at_builtin;refine zCw (by rfl) _ _ p _ rfl w1.heap.size _ _ _ acc rfl HOq.out rfl hWn.symm (by have:=HLZ0.out;omega) HBq.out.size ?_);intro uz wz hr2 hb2;obtain⟨accz,hac⟩:∃accz,accz=acc++[p]:=⟨_,rfl⟩;(have HOz:Hid (POwn w1.heap.size wz uz accz):=by show POwn _ _ _ _;rw[hac];exact hr2);have HBz:Hid (Below w1.heap.size w1 wz):=HBq.out.trans hb2;(have HLZ:Hid (accz.length≤k+2):=by have:=HLZ0.out;show _≤_;rw[hac];simp;omega);rw[←hac]at HSTEP;obtain⟨⟨z0,z1⟩,⟨y0,y1⟩⟩:=HT.out wz HBz.out;rw[Nat.zero_add]at y1;obtain⟨dz,hdz⟩:∃dz,dz=true:=⟨_,rfl⟩;rw[←hdz]at HSTEP;have HDZ:Hid (dz=true):=hdz;clear hr2 hb2 hac HOq HBq hWn c0 c1 d0 d1 hdz;(go_upto_region 9 with fail);by_cases hxp:x.1=p.1
        · have hs:(x.1.toList==p.1.toList)=true:=by rw[zFc];exact decide_eq_true hxp
          have HST:Hid (PutAt6 l p (k+1) dz accz):=by
           have h:=HSTEP.out [] (if_neg (fun e=>e hxp));rw[List.append_nil]at h;exact h
          clear hxp;go_wp2_with fail;go_quiet (fail);have HOy:Hid (POwn w1.heap.size (wz.drewN nq) uz accz):=HOz.out.below (belowN (Below.refl _ wz) nq);have HBy:Hid (Below w1.heap.size w1 (wz.drewN nq)):=belowN HBz.out nq;go_wp2_with fail;go_roundg (n-(k+1));case measure=>omega
          case rel=>
           have HST2:=HST.out;rw[HDZ.out]at HST2;exact⟨k+1,_,_,rfl,by go_num,by omega,Nat.le_refl _,HST2,HOy,HBy⟩
        · have hs:(x.1.toList==p.1.toList)=false:=by rw[zFc];exact decide_eq_false hxp
          have HST:Hid (PutAt6 l p (k+1) dz (accz++[x])):=HSTEP.out [x] (if_pos hxp);clear hxp;go_wp2_with fail;go_quiet (fail);have HOq:Hid (POwn w1.heap.size (wz.drewN nq) uz accz):=HOz.out.below (belowN (Below.refl _ wz) nq);have hWn:(wz.drewN nq).heap.size=wz.heap.size:=rfl;have HBq:Hid (Below w1.heap.size w1 (wz.drewN nq)):=belowN HBz.out nq;go_wp2_with (at_builtin;refine zCw (by rfl) _ _ x _ rfl w1.heap.size _ _ _ accz rfl HOq.out rfl hWn.symm (by have:=HLZ.out;omega) HBq.out.size ?_);intro v4 w4 hr4 hb4;have HOy:Hid (POwn w1.heap.size w4 v4 (accz++[x])):=hr4;have HBy:Hid (Below w1.heap.size w1 w4):=HBq.out.trans hb4;clear hr4 hb4;go_wp2_with fail;go_roundg (n-(k+1));case measure=>omega
          case rel=>
           have HST2:=HST.out;rw[HDZ.out]at HST2;exact⟨k+1,_,_,rfl,by go_num,by omega,Nat.le_refl _,HST2,HOy,HBy⟩
      · have HSTEP:Hid (∀tail,(if x.1≠p.1 then [x]else [])=tail→PutAt6 l p (k+1) false (acc++tail)):=by
         show ∀tail,_;intro tail ht;have h:=HP.out.step HX.out;rw[hlx,ht]at h;simpa using h
        rw[hlx]at hls;clear hlx;go_wp2_with fail;go_quiet (first|(go_at_call 43;refine Calls.quiet_of (hls _)));obtain⟨accz,hac⟩:∃accz,accz=acc:=⟨_,rfl⟩;obtain⟨uz,huz⟩:∃uz,uz=u5:=⟨_,rfl⟩;obtain⟨dz,hdz⟩:∃dz,dz=false:=⟨_,rfl⟩;rw[←hac,←hdz]at HSTEP;rw[←hac,←huz]at HO;rw[←huz];have HDZ:Hid (dz=false):=hdz;(have HLZ:Hid (accz.length≤k+2):=by have:=HLZ0.out;show _≤_;rw[hac];omega);clear hac hdz huz;obtain⟨wz,hwz⟩:∃wz,wz=wr.drewN nq:=⟨_,rfl⟩;rw[←hwz];(have HOz:Hid (POwn w1.heap.size wz uz accz):=by show POwn _ _ _ _;rw[hwz];exact HO.out.below (belowN (Below.refl _ wr) nq));(have HBz:Hid (Below w1.heap.size w1 wz):=by show Below _ _ _;rw[hwz];exact belowN HB.out nq);obtain⟨⟨z0,z1⟩,⟨y0,y1⟩⟩:=HT.out wz HBz.out;rw[Nat.zero_add]at y1;clear hwz c0 c1 d0 d1;(go_upto_region 9 with fail);by_cases hxp:x.1=p.1
        · have hs:(x.1.toList==p.1.toList)=true:=by rw[zFc];exact decide_eq_true hxp
          have HST:Hid (PutAt6 l p (k+1) dz accz):=by
           have h:=HSTEP.out [] (if_neg (fun e=>e hxp));rw[List.append_nil]at h;exact h
          clear hxp;go_wp2_with fail;go_quiet (fail);have HOy:Hid (POwn w1.heap.size (wz.drewN nq) uz accz):=HOz.out.below (belowN (Below.refl _ wz) nq);have HBy:Hid (Below w1.heap.size w1 (wz.drewN nq)):=belowN HBz.out nq;go_wp2_with fail;go_roundg (n-(k+1));case measure=>omega
          case rel=>
           have HST2:=HST.out;rw[HDZ.out]at HST2;exact⟨k+1,_,_,rfl,by go_num,by omega,Nat.le_refl _,HST2,HOy,HBy⟩
        · have hs:(x.1.toList==p.1.toList)=false:=by rw[zFc];exact decide_eq_false hxp
          have HST:Hid (PutAt6 l p (k+1) dz (accz++[x])):=HSTEP.out [x] (if_pos hxp);clear hxp;go_wp2_with fail;go_quiet (fail);have HOq:Hid (POwn w1.heap.size (wz.drewN nq) uz accz):=HOz.out.below (belowN (Below.refl _ wz) nq);have hWn:(wz.drewN nq).heap.size=wz.heap.size:=rfl;have HBq:Hid (Below w1.heap.size w1 (wz.drewN nq)):=belowN HBz.out nq;go_wp2_with (at_builtin;refine zCw (by rfl) _ _ x _ rfl w1.heap.size _ _ _ accz rfl HOq.out rfl hWn.symm (by have:=HLZ.out;omega) HBq.out.size ?_);intro v4 w4 hr4 hb4;have HOy:Hid (POwn w1.heap.size w4 v4 (accz++[x])):=hr4;have HBy:Hid (Below w1.heap.size w1 w4):=HBq.out.trans hb4;clear hr4 hb4;go_wp2_with fail;go_roundg (n-(k+1));case measure=>omega
          case rel=>
           have HST2:=HST.out;rw[HDZ.out]at HST2;exact⟨k+1,_,_,rfl,by go_num,by omega,Nat.le_refl _,HST2,HOy,HBy⟩
    · have HSTEP:Hid (∀tail,(if x.1≠p.1 then [x]else [])=tail→PutAt6 l p (k+1) true (acc++tail)):=by
       show ∀tail,_;intro tail ht;have h:=HP.out.step HX.out;rw[ht]at h;simpa using h
      go_wp2_with fail;go_quiet (fail);obtain⟨accz,hac⟩:∃accz,accz=acc:=⟨_,rfl⟩;obtain⟨uz,huz⟩:∃uz,uz=u5:=⟨_,rfl⟩;obtain⟨dz,hdz⟩:∃dz,dz=true:=⟨_,rfl⟩;rw[←hac,←hdz]at HSTEP;rw[←hac,←huz]at HO;rw[←huz];have HDZ:Hid (dz=true):=hdz;(have HLZ:Hid (accz.length≤k+2):=by have:=HLZ0.out;show _≤_;rw[hac];omega);clear hac hdz huz;obtain⟨wz,hwz⟩:∃wz,wz=wr.drewN nq:=⟨_,rfl⟩;rw[←hwz];(have HOz:Hid (POwn w1.heap.size wz uz accz):=by show POwn _ _ _ _;rw[hwz];exact HO.out.below (belowN (Below.refl _ wr) nq));(have HBz:Hid (Below w1.heap.size w1 wz):=by show Below _ _ _;rw[hwz];exact belowN HB.out nq);obtain⟨⟨z0,z1⟩,⟨y0,y1⟩⟩:=HT.out wz HBz.out;rw[Nat.zero_add]at y1;clear hwz c0 c1 d0 d1;(go_upto_region 9 with fail);by_cases hxp:x.1=p.1
      · have hs:(x.1.toList==p.1.toList)=true:=by rw[zFc];exact decide_eq_true hxp
        have HST:Hid (PutAt6 l p (k+1) dz accz):=by
         have h:=HSTEP.out [] (if_neg (fun e=>e hxp));rw[List.append_nil]at h;exact h
        clear hxp;go_wp2_with fail;go_quiet (fail);have HOy:Hid (POwn w1.heap.size (wz.drewN nq) uz accz):=HOz.out.below (belowN (Below.refl _ wz) nq);have HBy:Hid (Below w1.heap.size w1 (wz.drewN nq)):=belowN HBz.out nq;go_wp2_with fail;go_roundg (n-(k+1));case measure=>omega
        case rel=>
         have HST2:=HST.out;rw[HDZ.out]at HST2;exact⟨k+1,_,_,rfl,by go_num,by omega,Nat.le_refl _,HST2,HOy,HBy⟩
      · have hs:(x.1.toList==p.1.toList)=false:=by rw[zFc];exact decide_eq_false hxp
        have HST:Hid (PutAt6 l p (k+1) dz (accz++[x])):=HSTEP.out [x] (if_pos hxp);clear hxp;go_wp2_with fail;go_quiet (fail);have HOq:Hid (POwn w1.heap.size (wz.drewN nq) uz accz):=HOz.out.below (belowN (Below.refl _ wz) nq);have hWn:(wz.drewN nq).heap.size=wz.heap.size:=rfl;have HBq:Hid (Below w1.heap.size w1 (wz.drewN nq)):=belowN HBz.out nq;go_wp2_with (at_builtin;refine zCw (by rfl) _ _ x _ rfl w1.heap.size _ _ _ accz rfl HOq.out rfl hWn.symm (by have:=HLZ.out;omega) HBq.out.size ?_);intro v4 w4 hr4 hb4;have HOy:Hid (POwn w1.heap.size w4 v4 (accz++[x])):=hr4;have HBy:Hid (Below w1.heap.size w1 w4):=HBq.out.trans hb4;clear hr4 hb4;go_wp2_with fail;go_roundg (n-(k+1));case measure=>omega
        case rel=>
         have HST2:=HST.out;rw[HDZ.out]at HST2;exact⟨k+1,_,_,rfl,by go_num,by omega,Nat.le_refl _,HST2,HOy,HBy⟩
  · have hltz:¬(k:Int)<(n:Int):=by omega
    cases done
    · have HF:Hid (acc++[p]=putP zAa p false l):=by show _=_;have:=HP.out.fin (by have:=HN.out;omega);simpa using this
      obtain⟨d0,d1⟩:=HTP.out.below hbp HB.out;rw[Nat.zero_add]at d1;(have HL0:Hid (acc.length≤k):=by have:=HP.out.len;show _≤_;simpa using this);go_wp2_with (at_builtin;refine zCw (by rfl) _ _ p _ rfl w1.heap.size _ _ _ acc rfl HO.out rfl rfl (by have:=HL0.out;omega) HB.out.size ?_);intro v2 w2 hr2 hb2;go_wp2_with fail;go_ret;obtain⟨r1,r2⟩:=HFR.out _ _ _ hr2 (HB.out.trans hb2);rw[HBE.out];refine⟨_,rfl,?_,r2⟩;show POwn _ _ _ (putP zAa p false l);rw[←HF.out];exact r1
    · have HF:Hid (acc=putP zAa p false l):=by show _=_;have:=HP.out.fin (by have:=HN.out;omega);simpa using this
      go_wp2;go_ret;obtain⟨r1,r2⟩:=HFR.out _ _ _ HO.out HB.out;rw[HBE.out];refine⟨_,rfl,?_,r2⟩;show POwn _ _ _ (putP zAa p false l);rw[←HF.out];exact r1
end
section
open Go.RowKit Nums Pm
theorem zQ6:∀(l a:List Pr),(l.foldl (put zAa) a).length≤a.length+l.length
 |[],a=>by simp
 |x::r,a=>by
  have h:=zQ6 r (put zAa a x);have h2:(put zAa a x).length≤a.length+1:=by
   have:=(PutAt6.mk (l:=a) (p:=x) (k:=0) (done:=false) (acc:=[]) (by simp) (by simp));clear this
   suffices H:∀(a:List Pr) (d:Bool),(putP zAa x d a).length≤a.length+(if d then 0 else 1)from H a false
   intro a
   induction a with
   |nil=>intro d;cases d<;>simp[putP]
   |cons y a ih=>
    intro d;rw[putP];have h1:=ih true;have h0:=ih false;cases d<;>cases zAa y.1 x.1<;>by_cases e:y.1=x.1<;>simp[e]at h1 h0 ⊢<;>omega
  rw[List.foldl_cons,List.length_cons];omega
theorem zG6(l:List Pr):(norm zAa l).length≤l.length:=by have:=zQ6 l [];simpa[norm]using this
theorem norm_mem{l:List Pr}{x:Pr}(h:x∈norm zAa l):x∈l:=by
 have e:=SUp.find_of_mem lessB_sto (zD9 lessB_sto l) h;rw[zCl lessB_sto]at e;exact find_mem e
theorem Sm.norm{l:List Pr}(h:Sm l):Sm (Pm.norm zAa l):=fun x hx=>h x (norm_mem hx)
set_option maxHeartbeats 1000000 in
theorem zX2(w:World)(u v:Value)(l m:List Pr)(h1:PRow w u l)(h2:PRow w v m)(hl:l.length<137438953472)(hm:m.length<137438953472):
 Calls Tryz.prog 59 #[u,v] w fun e w'=>∃v',e = .returned v'∧POwn w.heap.size w' v' (zAc zAa l m)∧Below w.heap.size w w':=by
 obtain⟨ad1,cap1,rfl⟩:=h1.form;obtain⟨ad2,cap2,rfl⟩:=h2.form;have HC:Hid (∀o,PRow (w.alloc o) (.slice ad1 l.length cap1) l∧PRow (w.alloc o) (.slice ad2 m.length cap2) m∧Below w.heap.size w (w.alloc o)):=fun o=>⟨h1.below ((Below.refl _ w).alloc (Nat.le_refl _) o),h2.below ((Below.refl _ w).alloc (Nat.le_refl _) o),(Below.refl _ w).alloc (Nat.le_refl _) o⟩
 have HL:Hid ((l++m).length<549755813888):=by show _<_;simp;omega
 clear h1 h2;go_enter Tryz.func59,Tryz.ntmps59;go_wp2_with (go_at_call 96;refine(inOrder_any _ _ _ _ (l++m) HL.out (zPo _ _ _ _ _ l m (HC.out _).1 (HC.out _).2.1 (by omega) (by omega) (by simp) (by simp) (by simp))).mono ?_;rintro e w1 ⟨v1,rfl,ho1,hb1⟩);have HB1:Hid (Below w.heap.size w w1):=(HC.out _).2.2.trans (hb1.mono (HC.out _).2.2.size);have HO1:Hid (POwn w.heap.size w1 v1 (norm zAa (l++m))):=ho1.mono (HC.out _).2.2.size;clear ho1 hb1 HC;go_wp2_with (go_at_call 95;refine(zJa w.heap.size w1 v1 _ HO1.out (by have:=zG6 (l++m);have:=HL.out;omega) HB1.out.size).mono ?_;rintro e w2 ⟨v2,rfl,ho2,hb2⟩);go_ret;exact⟨v2,rfl,ho2,HB1.out.trans hb2⟩
end
section
open Go.RowKit Go.Shelf Go.Lib Go.Sort Pm
set_option maxHeartbeats 2000000 in
theorem zUo(w:World)(v:Value)(l:List Pr)(s:ByteArray)(h:PRow w v l)(hl:l.length≤9223372036854775807):
 Calls Tryz.prog 44 #[v,.string s] w fun e w'=>e = .returned (.tuple #[.int .i64 ((Pm.find l s).getD 0),.bool (Pm.find l s).isSome])∧w'=w:=by
 obtain⟨ad,cap,rfl⟩:=h.form;have HR:Hid (PRow w (.slice ad l.length cap) l):=h;obtain⟨n,hn⟩:∃n,l.length=n:=⟨_,rfl⟩;have HN:Hid (l.length=n):=hn;obtain⟨F,hF⟩:∃F,Pm.find l s=F:=⟨_,rfl⟩;have HF:Hid (Pm.find l s=F):=hF;rw[hn]at HR hl;clear h;rw[hn,hF];clear hn hF;go_enter Tryz.func44,Tryz.ntmps44;go_wp2
 go_loopg [6] n (fun g s6 wr=>∃(k:Nat),s6 = .int .i64 ((k:Int)-1)∧k≤n∧k≤g∧wr=w∧Hid (Pm.find (l.take k) s=F))
 case atStart=>exact⟨n,rfl,Nat.le_refl _,Nat.le_refl _,rfl,by show _=_;rw[List.take_of_length_le (by have:=HN.out;omega)];exact HF.out⟩
 case round=>
  obtain⟨k,rfl,hk,hg,rfl,HK⟩:=hrel;cases k with
  |zero=>
   (have HE:Hid (F=none):=by show _=_;rw[←HK.out];rfl);go_wp2;go_ret2;rw[HE.out];exact⟨rfl,rfl⟩
  |succ k=>
   (have e1:((k+1:Nat):Int)-1=(k:Int):=by omega);obtain⟨x,hx⟩:∃x,l[k]?=some x:=⟨l[k]'(by have:=HN.out;omega),List.getElem?_eq_getElem _⟩;obtain⟨b,off,rfl,hb,hcell⟩:=HR.out.at (by omega);obtain⟨c0,c1⟩:=hcell k x hx;(have hstep:Pm.find (l.take (k+1)) s=if x.1=s then some x.2 else Pm.find (l.take k) s:=by rw[zD4 hx,find_snoc]);(have hk0:(0:Int)≤(k:Int):=by omega);(have hkn:(k:Int)<(n:Int):=by omega);(have ekn:(k:Int).toNat=k:=by omega);clear hx hcell;by_cases hxs:x.1=s
   · have hs:(x.1.toList==s.toList)=true:=by rw[zFc];exact decide_eq_true hxs
     (have HE:Hid (F=some x.2):=by show _=_;rw[←HK.out,hstep,if_pos hxs]);clear hxs hstep;go_wp2;go_ret2;rw[HE.out];exact⟨rfl,rfl⟩
   · have hs:(x.1.toList==s.toList)=false:=by rw[zFc];exact decide_eq_false hxs
     (have HE:Hid (Pm.find (l.take k) s=F):=by show _=_;rw[←HK.out,hstep,if_neg hxs]);clear hxs hstep;go_wp2;go_roundg k;(case measure=>omega);case rel=>exact⟨k,by first|rfl|go_num,by omega,Nat.le_refl _,rfl,HE⟩
end
