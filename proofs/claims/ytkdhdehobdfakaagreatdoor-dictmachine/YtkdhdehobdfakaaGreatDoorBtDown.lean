import Derived.Test.YtkdhdehobdfakaaGreatDoorBtHeap
namespace Go.Proofs.YtkdhdehobdfakaaGreatDoor
open Go.RowKit Go.Lib Nums Pm
set_option maxRecDepth 100000
namespace Bt
theorem KAt.swapped{B:Nat}{w1 w2:World}{p:Nat}{room:Int}{v:Value}{h h2:List Mt}(K1:KAt B w1 p room v h)(hg2:GOwn 52 3 B w2 v (h2.map cellsM))(hu2:Upd (fun j=>v.ownBlock=some j) w1 w2):KAt B w2 p room v h2:=by
 have hp:=hu2.block p K1.lt K1.ap;exact⟨K1.low,Nat.lt_of_lt_of_le K1.lt hu2.size,(World.cell?_of_block (w:=w1) (a:=⟨p,0,none⟩) hp).trans K1.c0,(World.cell?_of_block (w:=w1) (a:=⟨p,1,none⟩) hp).trans K1.c1,(World.frozen?_of_block (w:=w1) (a:=⟨p,1,none⟩) hp).trans K1.f1,hg2,K1.ap⟩
structure DnR(B n:Nat)(w:World)(p:Nat)(room:Int)(v:Value)(h h':List Mt)(i:Nat)(wr:World):Prop where
 k:KAt B wr p room v h'
 j:DnJ n h' i
 pe:h'.Perm h
 ke:∀k,n≤k→el h' k=el h k
 up:Upd (KF p v) w wr
theorem DnR.below{B n:Nat}{w:World}{p:Nat}{room:Int}{v:Value}{h h':List Mt}{i:Nat}{wr w1:World}(R:DnR B n w p room v h h' i wr)(hb:Below wr.heap.size wr w1):DnR B n w p room v h h' i w1:=
 ⟨R.k.below hb,R.j,R.pe,R.ke,R.up.trans (G:=fun _=>False) (zAm hb) (fun _ _ f=>f.elim)⟩
theorem DnR.swap{B n:Nat}{w:World}{p:Nat}{room:Int}{v:Value}{h h':List Mt}{i j:Nat}{w1 w2:World}(R:DnR B n w p room v h h' i w1)(C:Chi n h' i j)(hb:btr (el h' i) (el h' j)=true)(hg2:GOwn 52 3 B w2 v ((swp h' i j).map cellsM))(hu2:Upd (fun j=>v.ownBlock=some j) w1 w2):DnR B n w p room v h (swp h' i j) j w2:=by
 have hl:=R.j.len;have h1:=C.lt;have h2:i<j:=by have:=C.of;have:=C.pos;unfold pa at *;omega
 refine⟨R.k.swapped hg2 hu2,R.j.step C hb,(zKp h' i j (by omega) (by omega)).trans R.pe,fun k hk=>?_,R.up.trans hu2 (fun _ _ e => .inr e)⟩;rw[zNt h' i j k (by omega) (by omega),if_neg (by omega),if_neg (by omega)];exact R.ke k hk
set_option maxHeartbeats 2000000 in
theorem down_any(B:Nat)(w:World)(p:Nat)(room:Int)(v:Value)(h:List Mt)(n:Nat)(K:KAt B w p room v h)(J:DnJ n h 0)(hl:h.length<1099511627776):
 Calls Tryz.prog 157 #[zGn p,.int .i64 0,.int .i64 n] w fun e w'=>(∃b,e = .returned (.bool b))∧∃h',KAt B w' p room v h'∧Upd (KF p v) w w'∧h'.Perm h∧(∀k,n≤k→el h' k=el h k)∧Hp n h':=by
 obtain⟨ad,cap,hv⟩:=K.form;obtain⟨ln,hln⟩:∃n,h.length=n:=⟨_,rfl⟩;have hnl:=J.len;rw[hln]at hv hl hnl;subst hv;have HR0:Hid (DnR B n w p room (.slice ad ln cap) h h 0 w):=⟨K,J,.refl _,fun _ _=>rfl,Upd.refl _ _⟩;have HN:Hid (h.length=ln):=hln;clear K J hln;unfold zGn;go_enter Tryz.func157,Tryz.ntmps157;go_wp2
 go_loopg [7] n (fun g s7 wr=>∃(i:Nat) (h':List Mt),s7 = .int .i64 i∧n-i≤g∧i≤n∧Hid (DnR B n w p room (.slice ad ln cap) h h' i wr))
 case atStart=>exact⟨0,h,rfl,by omega,by omega,HR0⟩
 case round=>
  obtain⟨i,h',rfl,hkg,hin,HR⟩:=hrel;have HL':Hid (h'.length=ln):=by have:=HR.out.pe.length_eq;have:=HN.out;show h'.length=ln;omega
  obtain⟨j1,hj1⟩:∃j1,2*i+1=j1:=⟨_,rfl⟩;have HJ1:Hid (2*i+1=j1):=hj1;have w1':(2:Int)*(i:Int)+1=(j1:Int):=by omega
  by_cases c1:n≤j1
  · have c1z:(n:Int)≤(j1:Int):=by omega
    (have c1y:(j1:Int)≥(n:Int):=by omega);clear hj1;go_wp2;go_ret;exact⟨⟨_,rfl⟩,h',HR.out.k,HR.out.up,HR.out.pe,HR.out.ke,HR.out.j.leaf (by rw[HJ1.out];exact c1)⟩
  · have c1z:¬(n:Int)≤(j1:Int):=by omega
    (have c0:¬(j1:Int)<0:=by omega);obtain⟨j2,hj2⟩:∃j2,j1+1=j2:=⟨_,rfl⟩;(have HJ2:Hid (2*i+2=j2):=by show 2*i+2=j2;omega);(have w2':(j1:Int)+1=(j2:Int):=by omega);(have hj2b:j2<2199023255552:=by omega);clear hj1 hj2;have hm:=zFw wr p ad ln cap HR.out.k.c1;by_cases c2:j2<n
    focus
     (have c2z:(j2:Int)<(n:Int):=by omega);have HLA:Hid (Calls Tryz.prog 198 #[.slice ad ln cap,.int .i64 (j2:Int),.int .i64 (j1:Int)] wr fun e w'=>e = .returned (.bool (btr (el h' j1) (el h' j2)))∧Below wr.heap.size wr w'):=zL7 B wr _ h' HR.out.k.row j2 j1 (by have:=HL'.out;omega) (by have:=HL'.out;omega) (by have:=HL'.out;omega);obtain⟨ba,hba⟩:∃b,btr (el h' j1) (el h' j2)=b:=⟨_,rfl⟩;have HBA:Hid (btr (el h' j1) (el h' j2)=ba):=hba;rw[hba]at HLA;clear hba;cases ba
     focus
      (go_upto_region 8 with(go_at_call 198;refine HLA.out.mono ?_;rintro e wj ⟨rfl,hb1⟩;have HB1:Hid (Below wr.heap.size wr wj):=hb1;clear hb1;clear hm;have hm:=zFw wj p ad ln cap (HR.out.below HB1.out).k.c1));have RJ:Hid (DnR B n w p room (.slice ad ln cap) h h' i wj):=HR.out.below HB1.out;(have CJ:Hid (Chi n h' i j1):=by have:=zX6 (n:=n) (h:=h') (i:=i) (by have:=HJ1.out;omega) (.inr (by rw[HJ1.out,HJ2.out];exact HBA.out));rw[HJ1.out]at this;exact this);clear HLA HBA HR HB1 HJ1;obtain⟨jj,hjj⟩:∃jj,jj=j1:=⟨_,rfl⟩;subst hjj
     rotate_left
     focus
      (go_upto_region 8 with(go_at_call 198;refine HLA.out.mono ?_;rintro e wj ⟨rfl,hb1⟩;have HB1:Hid (Below wr.heap.size wr wj):=hb1;clear hb1;clear hm;have hm:=zFw wj p ad ln cap (HR.out.below HB1.out).k.c1));have RJ:Hid (DnR B n w p room (.slice ad ln cap) h h' i wj):=HR.out.below HB1.out;(have CJ:Hid (Chi n h' i j2):=by have:=chi_two (n:=n) (h:=h') (i:=i) (by have:=HJ2.out;omega) (by rw[HJ1.out,HJ2.out];exact HBA.out);rw[HJ2.out]at this;exact this);clear HLA HBA HR HB1 HJ2;obtain⟨jj,hjj⟩:∃jj,jj=j2:=⟨_,rfl⟩;subst hjj
    rotate_left 2
    focus
     (have c2z:¬(j2:Int)<(n:Int):=by omega);(go_upto_region 8 with fail);have RJ:Hid (DnR B n w p room (.slice ad ln cap) h h' i wr):=HR;(have CJ:Hid (Chi n h' i j1):=by have:=zX6 (n:=n) (h:=h') (i:=i) (by have:=HJ1.out;omega) (.inl (by have:=HJ2.out;omega));rw[HJ1.out]at this;exact this);clear HR HJ1;obtain⟨jj,hjj⟩:∃jj,jj=j1:=⟨_,rfl⟩;subst hjj;obtain⟨wj,hwj⟩:∃wj,wj=wr:=⟨_,rfl⟩;subst hwj
    all_goals
     have HLS:Hid (Calls Tryz.prog 198 #[.slice ad ln cap,.int .i64 (jj:Int),.int .i64 (i:Int)] wj fun e w'=>e = .returned (.bool (btr (el h' i) (el h' jj)))∧Below wj.heap.size wj w'):=zL7 B wj _ h' RJ.out.k.row jj i (by have:=HL'.out;have:=RJ.out.j.len;have:=CJ.out.lt;omega) (by have:=HL'.out;have:=RJ.out.j.len;have:=CJ.out.lt;omega) (by have:=HL'.out;omega);obtain⟨bt,hbt⟩:∃b,btr (el h' i) (el h' jj)=b:=⟨_,rfl⟩;have HBT:Hid (btr (el h' i) (el h' jj)=bt):=hbt;rw[hbt]at HLS;clear hbt;cases bt
     · go_wp2_with (go_at_call 198;refine HLS.out.mono ?_;rintro e w3 ⟨rfl,hb3⟩;have HB3:Hid (Below wj.heap.size wj w3):=hb3;clear hb3)
       go_ret;exact⟨⟨_,rfl⟩,h',(RJ.out.below HB3.out).k,(RJ.out.below HB3.out).up,RJ.out.pe,RJ.out.ke,RJ.out.j.stop CJ.out HBT.out⟩
     · go_wp2_with (go_at_call 198;refine HLS.out.mono ?_;rintro e w3 ⟨rfl,hb3⟩;have HB3:Hid (Below wj.heap.size wj w3):=hb3;clear hb3;have hm3:=zH8 w3 p ad ln cap (RJ.out.below HB3.out).k.c1)
       refine(zL2 B w3 _ h' (RJ.out.below HB3.out).k.row i jj (by have:=HL'.out;have:=RJ.out.j.len;have:=CJ.out.lt;omega) (by have:=HL'.out;have:=RJ.out.j.len;have:=CJ.out.lt;omega) (by have:=HL'.out;omega)).mono ?_;rintro e w4 ⟨rfl,hg4,hu4⟩;have HR4:Hid (DnR B n w p room (.slice ad ln cap) h (swp h' i jj) jj w4):=(RJ.out.below HB3.out).swap CJ.out HBT.out hg4 hu4;(have hij:i<jj:=by have:=CJ.out.of;have:=CJ.out.pos;unfold pa at *;omega);have hjn:=CJ.out.lt;clear hg4 hu4 HLS hm3;go_wp2;go_roundg (n-jj);(case measure=>omega);case rel=>exact⟨jj,swp h' i jj,rfl,Nat.le_refl _,by omega,HR4⟩
