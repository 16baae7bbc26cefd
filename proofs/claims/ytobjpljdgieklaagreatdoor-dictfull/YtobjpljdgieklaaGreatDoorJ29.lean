import Derived.Test.YtobjpljdgieklaaGreatDoorJ26
set_option maxRecDepth 100000
namespace Go.Proofs.YtobjpljdgieklaaGreatDoor
section
open Go.RowKit Go.Lib Nums Pm
namespace Bt
theorem KAt.swapped{B:Nat}{w1 w2:World}{p:Nat}{room:Int}{v:Value}{h h2:List Mt}(K1:KAt B w1 p room v h)(hg2:GOwn 74 3 B w2 v (h2.map cellsM))(hu2:Upd (fun j=>v.ownBlock=some j) w1 w2):KAt B w2 p room v h2:=by
 have hp:=hu2.block p K1.lt K1.ap;exact⟨K1.low,Nat.lt_of_lt_of_le K1.lt hu2.size,(World.cell?_of_block (w:=w1) (a:=⟨p,0,none⟩) hp).trans K1.c0,(World.cell?_of_block (w:=w1) (a:=⟨p,1,none⟩) hp).trans K1.c1,(World.frozen?_of_block (w:=w1) (a:=⟨p,1,none⟩) hp).trans K1.f1,hg2,K1.ap⟩
structure DnR(B n:Nat)(w:World)(p:Nat)(room:Int)(v:Value)(h h':List Mt)(i:Nat)(wr:World):Prop where
 k:KAt B wr p room v h'
 j:DnJ n h' i
 pe:h'.Perm h
 ke:∀k,n≤k→el h' k=el h k
 up:Upd (KF p v) w wr
theorem DnR.below{B n:Nat}{w:World}{p:Nat}{room:Int}{v:Value}{h h':List Mt}{i:Nat}{wr w1:World}(R:DnR B n w p room v h h' i wr)(hb:Below wr.heap.size wr w1):DnR B n w p room v h h' i w1:=
 ⟨R.k.below hb,R.j,R.pe,R.ke,R.up.trans (G:=fun _=>False) (zAj hb) (fun _ _ f=>f.elim)⟩
theorem DnR.swap{B n:Nat}{w:World}{p:Nat}{room:Int}{v:Value}{h h':List Mt}{i j:Nat}{w1 w2:World}(R:DnR B n w p room v h h' i w1)(C:Chi n h' i j)(hb:btr (el h' i) (el h' j)=true)(hg2:GOwn 74 3 B w2 v ((swp h' i j).map cellsM))(hu2:Upd (fun j=>v.ownBlock=some j) w1 w2):DnR B n w p room v h (swp h' i j) j w2:=by
 have hl:=R.j.len;have h1:=C.lt;have h2:i<j:=by have:=C.of;have:=C.pos;unfold pa at *;omega
 refine⟨R.k.swapped hg2 hu2,R.j.step C hb,(zKl h' i j (by omega) (by omega)).trans R.pe,fun k hk=>?_,R.up.trans hu2 (fun _ _ e => .inr e)⟩;rw[zNb h' i j k (by omega) (by omega),if_neg (by omega),if_neg (by omega)];exact R.ke k hk
set_option maxHeartbeats 2000000 in
theorem down_any(B:Nat)(w:World)(p:Nat)(room:Int)(v:Value)(h:List Mt)(n:Nat)(K:KAt B w p room v h)(J:DnJ n h 0)(hl:h.length<1099511627776):
 Calls Tryz.prog 179 #[zGl p,.int .i64 0,.int .i64 n] w fun e w'=>(∃b,e = .returned (.bool b))∧∃h',KAt B w' p room v h'∧Upd (KF p v) w w'∧h'.Perm h∧(∀k,n≤k→el h' k=el h k)∧Hp n h':=by
 obtain⟨ad,cap,hv⟩:=K.form;obtain⟨ln,hln⟩:∃n,h.length=n:=⟨_,rfl⟩;have hnl:=J.len;rw[hln]at hv hl hnl;subst hv;have HR0:Hid (DnR B n w p room (.slice ad ln cap) h h 0 w):=⟨K,J,.refl _,fun _ _=>rfl,Upd.refl _ _⟩;have HN:Hid (h.length=ln):=hln;clear K J hln;unfold zGl;go_enter Tryz.func179,Tryz.ntmps179;go_wp2
 go_loopg [7] n (fun g s7 wr=>∃(i:Nat) (h':List Mt),s7 = .int .i64 i∧n-i≤g∧i≤n∧Hid (DnR B n w p room (.slice ad ln cap) h h' i wr))
 case atStart=>exact⟨0,h,rfl,by omega,by omega,HR0⟩
 case round=>
  obtain⟨i,h',rfl,hkg,hin,HR⟩:=hrel;have HL':Hid (h'.length=ln):=by have:=HR.out.pe.length_eq;have:=HN.out;show h'.length=ln;omega
  obtain⟨j1,hj1⟩:∃j1,2*i+1=j1:=⟨_,rfl⟩;have HJ1:Hid (2*i+1=j1):=hj1;have w1':(2:Int)*(i:Int)+1=(j1:Int):=by omega
  by_cases c1:n≤j1
  · have c1z:(n:Int)≤(j1:Int):=by omega
    (have c1y:(j1:Int)≥(n:Int):=by omega);clear hj1;go_wp2;go_ret;exact⟨⟨_,rfl⟩,h',HR.out.k,HR.out.up,HR.out.pe,HR.out.ke,HR.out.j.leaf (by rw[HJ1.out];exact c1)⟩
  · have c1z:¬(n:Int)≤(j1:Int):=by omega
    (have c0:¬(j1:Int)<0:=by omega);obtain⟨j2,hj2⟩:∃j2,j1+1=j2:=⟨_,rfl⟩;(have HJ2:Hid (2*i+2=j2):=by show 2*i+2=j2;omega);(have w2':(j1:Int)+1=(j2:Int):=by omega);(have hj2b:j2<2199023255552:=by omega);clear hj1 hj2;have hm:=zFo wr p ad ln cap HR.out.k.c1;by_cases c2:j2<n
    · have c2z:(j2:Int)<(n:Int):=by omega
      have HLA:Hid (Calls Tryz.prog 220 #[.slice ad ln cap,.int .i64 (j2:Int),.int .i64 (j1:Int)] wr fun e w'=>e = .returned (.bool (btr (el h' j1) (el h' j2)))∧Below wr.heap.size wr w'):=zGb B wr _ h' HR.out.k.row j2 j1 (by have:=HL'.out;omega) (by have:=HL'.out;omega) (by have:=HL'.out;omega);obtain⟨ba,hba⟩:∃b,btr (el h' j1) (el h' j2)=b:=⟨_,rfl⟩;have HBA:Hid (btr (el h' j1) (el h' j2)=ba):=hba;rw[hba]at HLA;clear hba;cases ba
      · go_upto_region 8 with(go_at_call 220;refine HLA.out.mono ?_;rintro e wj ⟨rfl,hb1⟩;have HB1:Hid (Below wr.heap.size wr wj):=hb1;clear hb1;clear hm;have hm:=zFo wj p ad ln cap (HR.out.below HB1.out).k.c1)
        have RJ:Hid (DnR B n w p room (.slice ad ln cap) h h' i wj):=HR.out.below HB1.out;(have CJ:Hid (Chi n h' i j1):=by have:=zXo (n:=n) (h:=h') (i:=i) (by have:=HJ1.out;omega) (.inr (by rw[HJ1.out,HJ2.out];exact HBA.out));rw[HJ1.out]at this;exact this);clear HLA HBA HR HB1 HJ1;obtain⟨jj,hjj⟩:∃jj,jj=j1:=⟨_,rfl⟩;subst hjj;have HLS:Hid (Calls Tryz.prog 220 #[.slice ad ln cap,.int .i64 (jj:Int),.int .i64 (i:Int)] wj fun e w'=>e = .returned (.bool (btr (el h' i) (el h' jj)))∧Below wj.heap.size wj w'):=zGb B wj _ h' RJ.out.k.row jj i (by have:=HL'.out;have:=RJ.out.j.len;have:=CJ.out.lt;omega) (by have:=HL'.out;have:=RJ.out.j.len;have:=CJ.out.lt;omega) (by have:=HL'.out;omega);obtain⟨bt,hbt⟩:∃b,btr (el h' i) (el h' jj)=b:=⟨_,rfl⟩;have HBT:Hid (btr (el h' i) (el h' jj)=bt):=hbt;rw[hbt]at HLS;clear hbt;cases bt
        · go_wp2_with (go_at_call 220;refine HLS.out.mono ?_;rintro e w3 ⟨rfl,hb3⟩;have HB3:Hid (Below wj.heap.size wj w3):=hb3;clear hb3)
          go_ret;exact⟨⟨_,rfl⟩,h',(RJ.out.below HB3.out).k,(RJ.out.below HB3.out).up,RJ.out.pe,RJ.out.ke,RJ.out.j.stop CJ.out HBT.out⟩
        · go_wp2_with (go_at_call 220;refine HLS.out.mono ?_;rintro e w3 ⟨rfl,hb3⟩;have HB3:Hid (Below wj.heap.size wj w3):=hb3;clear hb3;have hm3:=zEb w3 p ad ln cap (RJ.out.below HB3.out).k.c1)
          refine(zF8 B w3 _ h' (RJ.out.below HB3.out).k.row i jj (by have:=HL'.out;have:=RJ.out.j.len;have:=CJ.out.lt;omega) (by have:=HL'.out;have:=RJ.out.j.len;have:=CJ.out.lt;omega) (by have:=HL'.out;omega)).mono ?_;rintro e w4 ⟨rfl,hg4,hu4⟩;have HR4:Hid (DnR B n w p room (.slice ad ln cap) h (swp h' i jj) jj w4):=(RJ.out.below HB3.out).swap CJ.out HBT.out hg4 hu4;(have hij:i<jj:=by have:=CJ.out.of;have:=CJ.out.pos;unfold pa at *;omega);have hjn:=CJ.out.lt;clear hg4 hu4 HLS hm3;go_wp2;go_roundg (n-jj);(case measure=>omega);case rel=>exact⟨jj,swp h' i jj,rfl,Nat.le_refl _,by omega,HR4⟩
      · go_upto_region 8 with(go_at_call 220;refine HLA.out.mono ?_;rintro e wj ⟨rfl,hb1⟩;have HB1:Hid (Below wr.heap.size wr wj):=hb1;clear hb1;clear hm;have hm:=zFo wj p ad ln cap (HR.out.below HB1.out).k.c1)
        have RJ:Hid (DnR B n w p room (.slice ad ln cap) h h' i wj):=HR.out.below HB1.out;(have CJ:Hid (Chi n h' i j2):=by have:=chi_two (n:=n) (h:=h') (i:=i) (by have:=HJ2.out;omega) (by rw[HJ1.out,HJ2.out];exact HBA.out);rw[HJ2.out]at this;exact this);clear HLA HBA HR HB1 HJ2;obtain⟨jj,hjj⟩:∃jj,jj=j2:=⟨_,rfl⟩;subst hjj;have HLS:Hid (Calls Tryz.prog 220 #[.slice ad ln cap,.int .i64 (jj:Int),.int .i64 (i:Int)] wj fun e w'=>e = .returned (.bool (btr (el h' i) (el h' jj)))∧Below wj.heap.size wj w'):=zGb B wj _ h' RJ.out.k.row jj i (by have:=HL'.out;have:=RJ.out.j.len;have:=CJ.out.lt;omega) (by have:=HL'.out;have:=RJ.out.j.len;have:=CJ.out.lt;omega) (by have:=HL'.out;omega);obtain⟨bt,hbt⟩:∃b,btr (el h' i) (el h' jj)=b:=⟨_,rfl⟩;have HBT:Hid (btr (el h' i) (el h' jj)=bt):=hbt;rw[hbt]at HLS;clear hbt;cases bt
        · go_wp2_with (go_at_call 220;refine HLS.out.mono ?_;rintro e w3 ⟨rfl,hb3⟩;have HB3:Hid (Below wj.heap.size wj w3):=hb3;clear hb3)
          go_ret;exact⟨⟨_,rfl⟩,h',(RJ.out.below HB3.out).k,(RJ.out.below HB3.out).up,RJ.out.pe,RJ.out.ke,RJ.out.j.stop CJ.out HBT.out⟩
        · go_wp2_with (go_at_call 220;refine HLS.out.mono ?_;rintro e w3 ⟨rfl,hb3⟩;have HB3:Hid (Below wj.heap.size wj w3):=hb3;clear hb3;have hm3:=zEb w3 p ad ln cap (RJ.out.below HB3.out).k.c1)
          refine(zF8 B w3 _ h' (RJ.out.below HB3.out).k.row i jj (by have:=HL'.out;have:=RJ.out.j.len;have:=CJ.out.lt;omega) (by have:=HL'.out;have:=RJ.out.j.len;have:=CJ.out.lt;omega) (by have:=HL'.out;omega)).mono ?_;rintro e w4 ⟨rfl,hg4,hu4⟩;have HR4:Hid (DnR B n w p room (.slice ad ln cap) h (swp h' i jj) jj w4):=(RJ.out.below HB3.out).swap CJ.out HBT.out hg4 hu4;(have hij:i<jj:=by have:=CJ.out.of;have:=CJ.out.pos;unfold pa at *;omega);have hjn:=CJ.out.lt;clear hg4 hu4 HLS hm3;go_wp2;go_roundg (n-jj);(case measure=>omega);case rel=>exact⟨jj,swp h' i jj,rfl,Nat.le_refl _,by omega,HR4⟩
    · have c2z:¬(j2:Int)<(n:Int):=by omega
      (go_upto_region 8 with fail);have RJ:Hid (DnR B n w p room (.slice ad ln cap) h h' i wr):=HR;(have CJ:Hid (Chi n h' i j1):=by have:=zXo (n:=n) (h:=h') (i:=i) (by have:=HJ1.out;omega) (.inl (by have:=HJ2.out;omega));rw[HJ1.out]at this;exact this);clear HR HJ1;obtain⟨jj,hjj⟩:∃jj,jj=j1:=⟨_,rfl⟩;subst hjj;obtain⟨wj,hwj⟩:∃wj,wj=wr:=⟨_,rfl⟩;subst hwj;have HLS:Hid (Calls Tryz.prog 220 #[.slice ad ln cap,.int .i64 (jj:Int),.int .i64 (i:Int)] wj fun e w'=>e = .returned (.bool (btr (el h' i) (el h' jj)))∧Below wj.heap.size wj w'):=zGb B wj _ h' RJ.out.k.row jj i (by have:=HL'.out;have:=RJ.out.j.len;have:=CJ.out.lt;omega) (by have:=HL'.out;have:=RJ.out.j.len;have:=CJ.out.lt;omega) (by have:=HL'.out;omega);obtain⟨bt,hbt⟩:∃b,btr (el h' i) (el h' jj)=b:=⟨_,rfl⟩;have HBT:Hid (btr (el h' i) (el h' jj)=bt):=hbt;rw[hbt]at HLS;clear hbt;cases bt
      · go_wp2_with (go_at_call 220;refine HLS.out.mono ?_;rintro e w3 ⟨rfl,hb3⟩;have HB3:Hid (Below wj.heap.size wj w3):=hb3;clear hb3)
        go_ret;exact⟨⟨_,rfl⟩,h',(RJ.out.below HB3.out).k,(RJ.out.below HB3.out).up,RJ.out.pe,RJ.out.ke,RJ.out.j.stop CJ.out HBT.out⟩
      · go_wp2_with (go_at_call 220;refine HLS.out.mono ?_;rintro e w3 ⟨rfl,hb3⟩;have HB3:Hid (Below wj.heap.size wj w3):=hb3;clear hb3;have hm3:=zEb w3 p ad ln cap (RJ.out.below HB3.out).k.c1)
        refine(zF8 B w3 _ h' (RJ.out.below HB3.out).k.row i jj (by have:=HL'.out;have:=RJ.out.j.len;have:=CJ.out.lt;omega) (by have:=HL'.out;have:=RJ.out.j.len;have:=CJ.out.lt;omega) (by have:=HL'.out;omega)).mono ?_;rintro e w4 ⟨rfl,hg4,hu4⟩;have HR4:Hid (DnR B n w p room (.slice ad ln cap) h (swp h' i jj) jj w4):=(RJ.out.below HB3.out).swap CJ.out HBT.out hg4 hu4;(have hij:i<jj:=by have:=CJ.out.of;have:=CJ.out.pos;unfold pa at *;omega);have hjn:=CJ.out.lt;clear hg4 hu4 HLS hm3;go_wp2;go_roundg (n-jj);(case measure=>omega);case rel=>exact⟨jj,swp h' i jj,rfl,Nat.le_refl _,by omega,HR4⟩
end Bt
end
section
open Go.RowKit Go.Lib Nums Pm
namespace Bt
def Nxt(w:World)(v v':Value):Prop:=v'.ownBlock=v.ownBlock∨∃g,v'.ownBlock=some g∧w.heap.size≤g
theorem KF.nxt{w:World}{p:Nat}{v v':Value}(h:Nxt w v v'){k:Nat}(hk:k<w.heap.size)(f:KF p v' k):KF p v k:=by
 rcases f with f|f
 · exact .inl f
 · rcases h with e|⟨g,e,hg⟩
   · exact .inr (e▸f)
   · rw[e]at f;cases f;omega
set_option maxHeartbeats 1000000 in
theorem Push_any(B:Nat)(w:World)(p:Nat)(room:Int)(v:Value)(h:List Mt)(m:Mt)(K:KAt B w p room v h)(H:Hp h.length h)(hl:h.length<549755813888):
 Calls Tryz.prog 128 #[zGl p,.iface 74 (valM m)] w fun e w'=>e = .returned (.tuple #[])∧∃v' h',KAt B w' p room v' h'∧Upd (KF p v) w w'∧Nxt w v v'∧h'.Perm (h++[m])∧Hp h'.length h':=by
 have HP:Hid (Calls Tryz.prog 223 #[.pointer (some ⟨p,1,none⟩),.iface 74 (valM m)] w fun e w'=>e = .returned (.tuple #[])∧∃v',KAt B w' p room v' (h++[m])∧Upd (KF p v) w w'∧(v'.ownBlock=v.ownBlock∨∃g,v'.ownBlock=some g∧w.heap.size≤g)):=zYg B w p room v h m K (by omega);have HJ:Hid (UpJ (h++[m]).length (h++[m]) h.length):=by
  have:=UpJ.start (x:=m) H;have e:(h++[m]).length=h.length+1:=by simp
  show UpJ _ _ _;rw[e];exact this
 have hmp:=zVl w p;obtain⟨n,hn⟩:∃n,h.length=n:=⟨_,rfl⟩;have HN:Hid (h.length=n):=hn;rw[hn]at hl HJ;clear K H hn;generalize valM m=vm at *;unfold zGl;go_enter Tryz.func128,Tryz.ntmps128;go_upto_region 1 with(go_at_call 223;refine HP.out.mono ?_;rintro e w1 ⟨rfl,v1,hK1,hu1,hx1⟩)
 obtain⟨ad,cap,hv1⟩:=hK1.form;obtain⟨n1,hn1⟩:∃n1,(h++[m]).length=n1:=⟨_,rfl⟩;rw[hn1]at hv1 HJ;subst hv1;have hn2:n1=n+1:=by have:=HN.out;simp at hn1;omega
 have HK1:Hid (KAt B w1 p room (.slice ad n1 cap) (h++[m])):=hK1;have HU1:Hid (Upd (KF p v) w w1):=hu1;have HX1:Hid (Nxt w v (.slice ad n1 cap)):=hx1;have hml:=zQs w1 p ad n1 cap hK1.c1;have hsub:IntKind.i64.wrap ((n1:Int)-1)=(n:Int):=by rw[IntKind.wrap_i64];omega
 have hsub2:(n1:Int)-1=(n:Int):=by omega
 have HUP:Hid (Calls Tryz.prog 162 #[.iface 199 (.pointer (some ⟨p,1,none⟩)),.int .i64 n] w1 fun e w'=>e = .returned (.tuple #[])∧∃h',KAt B w' p room (.slice ad n1 cap) h'∧Upd (KF p (.slice ad n1 cap)) w1 w'∧h'.Perm (h++[m])∧Hp h'.length h'):=up_any B w1 p room _ (h++[m]) n hK1 (by rw[hn1];exact HJ.out) (by rw[hn1];omega);clear hK1 hu1 hx1 hmp HP HJ hn1 hn2
 go_wp2_with (first
  |(go_at_call 160;refine(zLv w1 ad n1 cap).mono ?_;rintro e w2 ⟨rfl,rfl⟩)
  |(go_at_call 162;refine HUP.out.mono ?_;rintro e w3 ⟨rfl,h3,hK3,hu3,hp3,hh3⟩))
 go_returns;exact⟨rfl,_,h3,hK3,HU1.out.trans hu3 (fun k hk f=>KF.nxt HX1.out hk f),HX1.out,hp3,hh3⟩
set_option maxHeartbeats 1000000 in
theorem Pop_any(B:Nat)(w:World)(p:Nat)(room:Int)(v:Value)(h:List Mt)(n:Nat)(K:KAt B w p room v h)(H:Hp h.length h)(hn:h.length=n+1)(hl:h.length<549755813888):
 Calls Tryz.prog 161 #[zGl p] w fun e w'=>e = .returned (.iface 74 (valM (el h 0)))∧∃v' h',KAt B w' p room v' h'∧Upd (KF p v) w w'∧v'.ownBlock=v.ownBlock∧(el h 0::h').Perm h∧Hp h'.length h'∧h'.length=n:=by
 obtain⟨ad,cap,hv⟩:=K.form;obtain⟨n1,hn1⟩:∃n1,h.length=n1:=⟨_,rfl⟩;rw[hn1]at hv hl;subst hv;have HN1:Hid (h.length=n1):=hn1;have HN:Hid (h.length=n+1):=hn;have hn2:n1=n+1:=by omega
 have HK:Hid (KAt B w p room (.slice ad n1 cap) h):=K;have HH:Hid (Hp (n+1) h):=by show Hp _ _;rw[←hn];exact H
 have hml:=zQs w p ad n1 cap K.c1;have hms:=zEb w p ad n1 cap K.c1;have hsub:IntKind.i64.wrap ((n1:Int)-1)=(n:Int):=by rw[IntKind.wrap_i64];omega
 have hsub2:(n1:Int)-1=(n:Int):=by omega
 have HSW:Hid (Calls Tryz.prog 221 #[.slice ad n1 cap,.int .i64 0,.int .i64 n] w fun e w'=>e = .returned (.tuple #[])∧GOwn 74 3 B w' (.slice ad n1 cap) ((swp h 0 n).map cellsM)∧Upd (fun j=>(Value.slice ad n1 cap).ownBlock=some j) w w'):=zF8 B w _ h K.row 0 n (by omega) (by omega) (by omega);clear K H hn hn1 hn2;unfold zGl;go_enter Tryz.func161,Tryz.ntmps161
 go_upto_region 3 with(first
  |(go_at_call 160;refine(zLv w ad n1 cap).mono ?_;rintro e w2 ⟨rfl,hw2⟩;replace hw2:=hw2.symm;subst hw2)
  |(go_at_call 221;refine HSW.out.mono ?_;rintro e w1 ⟨rfl,hg1,hu1⟩))
 have HK1:Hid (KAt B w1 p room (.slice ad n1 cap) (swp h 0 n)):=HK.out.swapped hg1 hu1;have HU1:Hid (Upd (KF p (.slice ad n1 cap)) w w1):=hu1.mono (fun _ e => .inr e);have HDN:Hid (Calls Tryz.prog 179 #[.iface 199 (.pointer (some ⟨p,1,none⟩)),.int .i64 0,.int .i64 n] w1 fun e w'=>(∃b,e = .returned (.bool b))∧∃h',KAt B w' p room (.slice ad n1 cap) h'∧Upd (KF p (.slice ad n1 cap)) w1 w'∧h'.Perm (swp h 0 n)∧(∀k,n≤k→el h' k=el (swp h 0 n) k)∧Hp n h'):=down_any B w1 p room _ (swp h 0 n) n HK1.out (DnJ.start HN.out HH.out) (by rw[zGe,HN1.out];omega);clear hg1 hu1 hml hms HSW;go_upto_region 4 with(go_at_call 179;refine HDN.out.mono ?_;rintro e w2 ⟨⟨bb,rfl⟩,h2,hK2,hu2,hp2,hk2,hh2⟩)
 have hl2:h2.length=n+1:=by have:=hp2.length_eq;rw[zGe]at this;have:=HN.out;omega
 have hpp:=popped HN.out hp2 (hk2 n (Nat.le_refl _));have HPO:Hid (Calls Tryz.prog 222 #[.pointer (some ⟨p,1,none⟩)] w2 fun e w'=>e = .returned (.iface 74 (valM (el h 0)))∧∃v',KAt B w' p room v' (h2.take n)∧Upd (KF p (.slice ad n1 cap)) w2 w'∧v'.ownBlock=(Value.slice ad n1 cap).ownBlock):=by
  have:=Ppop_any B w2 p room _ h2 n hK2 hl2 (by have:=HN1.out;have:=HN.out;omega);rw[hpp.2]at this;exact this
 have HE:Hid ((el h 0::h2.take n).Perm h∧Hp (h2.take n).length (h2.take n)∧(h2.take n).length=n):=by
  have e:(h2.take n).length=n:=by rw[List.length_take];omega
  exact⟨hpp.1,by rw[e];exact hh2.take,e⟩
 have HU2:Hid (Upd (KF p (.slice ad n1 cap)) w w2):=HU1.out.trans hu2 (fun _ _ f=>f);have hmp:=meth_pop w2 p;clear hK2 hu2 hp2 hk2 hh2 hl2 hpp HDN HU1 HK1;go_wp2_with (go_at_call 222;refine HPO.out.mono ?_;rintro e w3 ⟨rfl,v3,hK3,hu3,hx3⟩);go_ret;exact⟨rfl,v3,h2.take n,hK3,HU2.out.trans hu3 (fun _ _ f=>f),hx3,HE.out⟩
theorem zLw(B:Nat)(w:World)(p:Nat)(room:Int)(v:Value)(h:List Mt)(K:KAt B w p room v h):Calls Tryz.prog 124 #[.pointer (some ⟨p,0,none⟩)] w fun e w'=>e = .returned (.int .i64 h.length)∧w'=w:=by
 obtain⟨ad,cap,hv⟩:=K.form;subst hv;have c1:=K.c1;generalize h.length=n at *;clear K;go_enter Tryz.func124,Tryz.ntmps124;go_wp2_with (go_at_call 160;refine(zLv w ad n cap).mono ?_;rintro e w2 ⟨rfl,rfl⟩);go_ret;exact⟨rfl,rfl⟩
end Bt
end
