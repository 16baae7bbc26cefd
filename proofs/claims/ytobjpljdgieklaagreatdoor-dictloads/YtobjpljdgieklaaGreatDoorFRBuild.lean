import Derived.Test.YtobjpljdgieklaaGreatDoorJ27
namespace Go.Proofs.YtobjpljdgieklaaGreatDoor
open Go.RowKit Nums Fm Pm
set_option maxRecDepth 100000
def zF6(v:Value)(l:List Pr)(w:World):Prop:=
 Calls Tryz.prog 28 #[v] w fun e w'=>∃base vs b,e = .returned (.agg #[.int .i64 base,vs])∧BuildSays w w' l base vs b
theorem zA0{tmps:Array Value}{w:World}{rb:Nat}{a b:Value}(h2:tmps.getD 2 undef = .pointer (some ⟨rb,0,none⟩))(c0:w.cell? ⟨rb,0,none⟩=some a)(c1:w.cell? ⟨rb,1,none⟩=some b):(results Tryz.f18 tmps).run Tryz.prog w = .ok (.tuple #[.agg #[a,b],tmps.getD 3 undef]) w:=by
 have h2':tmps[2]?.getD undef = .pointer (some ⟨rb,0,none⟩):=by simpa using h2
 simp[results,Tryz.results18,go_sem,h2',c0,c1]
structure RBlk(rb:Nat)(w:World):Prop where
 blk:w.heap[rb]?=some (.cells #[.int .i64 0,.slice none 0 0] 39)
theorem RBlk.facts{rb:Nat}{w:World}(h:RBlk rb w):w.cell? ⟨rb,0,none⟩=some (.int .i64 0)∧w.cell? ⟨rb,1,none⟩=some (.slice none 0 0)∧∀o,w.frozen? ⟨rb,o,none⟩=false:=⟨by simp[World.cell?,h.blk],by simp[World.cell?,h.blk],fun o=>by simp[World.frozen?,h.blk]⟩
theorem RBlk.below{rb:Nat}{w w':World}(h:RBlk rb w)(hb:Below w.heap.size w w'):RBlk rb w':=⟨(hb.block rb (Array.getElem?_eq_some_iff.1 h.blk).1).trans h.blk⟩
theorem RBlk.lt{rb:Nat}{w:World}(h:RBlk rb w):rb<w.heap.size:=(Array.getElem?_eq_some_iff.1 h.blk).1
theorem StRow.same{B:Nat}{w w':World}{vs:Value}{b:List St}(h:StRow B w vs b)(he:∀g,B≤g→w'.heap[g]?=w.heap[g]?):StRow B w' vs b:=by
 obtain⟨xss,h1,h2,h3⟩:=h;refine⟨xss,h1.same fun g hg=>he g (h1.block hg).1,h2,fun i s hi=>?_⟩;obtain⟨va,e1,e2⟩:=h3 i s hi;exact⟨va,e1,GOwn.same e2 fun g hg=>he g (GOwn.block e2 hg).1⟩
set_option maxHeartbeats 4000000 in
theorem zMd(w:World)(v:Value)(l:List Pr)(h:PRow w v l)(hsm:Sm l)(hmk:zAl l=0→∀w1,Below w.heap.size w w1→zF6 v l w1):
 Calls Tryz.prog 18 #[v] w fun e w'=>∃base vs b,e = .returned (.tuple #[.agg #[.int .i64 base,vs],.int .i64 (zAl l)])∧BuildSays w w' l base vs b:=by
 obtain⟨ad,cap,rfl⟩:=h.form;have HR:Hid (PRow w (.slice ad l.length cap) l):=h;obtain⟨n,hn⟩:∃n,l.length=n:=⟨_,rfl⟩;have HN:Hid (l.length=n):=hn;have HS:Hid (Sm l):=hsm;have HA:Hid (∀o,Below w.heap.size w (w.alloc o)):=fun o=>(Below.refl _ w).alloc (Nat.le_refl _) o
 rw[hn]at HR;clear h hsm;rw[hn]at hmk ⊢;have HMK:Hid (zAl l=0→∀w1,Below w.heap.size w w1→zF6 (.slice ad n cap) l w1):=hmk;obtain⟨C,hC⟩:∃C,zAl l=C:=⟨_,rfl⟩;have HC:Hid (zAl l=C):=hC;rw[hC];have HZ:Hid (C≠0→∀w',Below w.heap.size w w'→BuildSays w w' l 0 (.slice none 0 0) []):=fun h w' hb=>by
  refine⟨hb,StRow.nil _ _,?_⟩;rw[zAg,if_neg];rintro⟨h1,_⟩;exact h (HC.out.symm.trans h1)
 clear hmk;by_cases hbig:4096<n
 · have hbz:(4096:Int)<(n:Int):=by omega
   (have hC70:C=70:=by rw[←hC,zAl,if_pos (by omega)]);subst hC70;clear hC hn;go_enter Tryz.func18,Tryz.ntmps18;go_wp2;go_returns;exact⟨_,_,_,rfl,HZ.out (by decide) _ (HA.out _)⟩
 have hbz:¬(4096:Int)<(n:Int):=by omega
 have hCf:zA7 none l=C:=by rw[←hC,zAl,if_neg (by omega)]
 have HF:Hid (zA7 (zBz l 0) (l.drop 0)=C):=hCf;clear hC hCf hn;go_enter Tryz.func18,Tryz.ntmps18;obtain⟨rb,hrb⟩:∃rb,rb=w.heap.size:=⟨_,rfl⟩;obtain⟨w0,hw0⟩:∃w0,w0=w.alloc (.cells #[.int .i64 0,.slice none 0 0] 39):=⟨_,rfl⟩;have HB0:Hid (Below w.heap.size w w0):=by show Below _ _ _;rw[hw0];exact HA.out _
 have HR0:Hid (RBlk rb w0):=⟨by rw[hw0,hrb];exact zAb _ _⟩;have HRB:Hid (w.heap.size≤rb):=by show _≤_;rw[hrb];exact Nat.le_refl _
 go_upto_region 1 with fail
 rw[←hw0,←hrb];clear hw0 hrb;go_wp2
 go_loopg [4,5] n (fun g s4 _ wr=>∃(k:Nat),s4 = .int .i64 k∧k≤n∧n-k≤g∧Hid (Below w.heap.size w wr)∧Hid (zA7 (zBz l k) (l.drop k)=C)∧Hid (RBlk rb wr))
 case atStart=>exact⟨0,rfl,Nat.zero_le _,by omega,HB0,HF,HR0⟩
 case round=>
  obtain⟨k,rfl,hk,hg,HB,HK,HRW⟩:=hrel;by_cases hlt:k<n
  · have hltz:(k:Int)<(n:Int):=by omega
    obtain⟨x,hx⟩:∃x,l[k]?=some x:=⟨l[k]'(by have:=HN.out;omega),List.getElem?_eq_getElem _⟩;obtain⟨b,off,rfl,hb,hcell⟩:=(HR.out.below HB.out).at (by omega);obtain⟨c0,c1⟩:=hcell k x hx;have HX:Hid (l[k]?=some x):=hx;(have hw:=fun(W:World)=>zPk x.1 W (HS.out.at hx));by_cases hk0:k=0
    · have HF2:Hid (∀(W:World),Below wr.heap.size wr W→W.cell? ⟨b,off+k*2,none⟩=some (.string x.1)∧W.cell? ⟨b,off+k*2+1,none⟩=some (.int .i64 x.2)∧True∧Hid (Below w.heap.size w W)∧Hid (RBlk rb W)∧W.cell? ⟨rb,0,none⟩=some (.int .i64 0)∧W.cell? ⟨rb,1,none⟩=some (.slice none 0 0)∧∀o,W.frozen? ⟨rb,o,none⟩=false):=fun W e=>⟨(e.cell (p:=⟨b,off+k*2,none⟩) hb).trans c0,(e.cell (p:=⟨b,off+k*2+1,none⟩) hb).trans c1,trivial,HB.out.trans (e.mono HB.out.size),HRW.out.below e,(HRW.out.below e).facts⟩
      have hgd:decide (0<k)=false:=decide_eq_false (by omega);(have hk0z:¬(0:Int)<(k:Int):=by omega);(have HP0:Hid (zHr (zBz l k) x=true):=by show _=_;rw[hk0];rfl);cases hwd:zAq x.1.data.toList
      · have HE:Hid (C=71):=by show _=_;rw[←HK.out];exact zBj hx (zKm hwd) (by decide)
        rw[hwd]at hw;clear hcell hx hwd hk0;go_wp2_with (go_at_call 42;refine(hw _).mono ?_;rintro e w2 ⟨rfl,hq⟩;obtain⟨q0,q1,q2,HBq,HRq,z0,z1,z2⟩:=HF2.out _ hq;clear hq);(try simp only[Exit.inBlock,Exit.then]);refine bodyPost_ret (zA0 rfl (zA2 HRq.out.blk _ _).1 (zA2 HRq.out.blk _ _).2) rfl ?_;exact⟨_,_,_,by rw[HE.out];rfl,HZ.out (by rw[HE.out];decide) _ ((HBq.out.setCell HRB.out _).setCell HRB.out _)⟩
      · rw[hwd]at hw
        by_cases hlo:x.2<1
        · have HE:Hid (C=72):=by show _=_;rw[←HK.out];exact zBj hx (zOi hwd hlo) (by decide)
          clear hcell hx hwd hk0;go_wp2_with (go_at_call 42;refine(hw _).mono ?_;rintro e w2 ⟨rfl,hq⟩;obtain⟨q0,q1,q2,HBq,HRq,z0,z1,z2⟩:=HF2.out _ hq;clear hq);(try simp only[Exit.inBlock,Exit.then]);refine bodyPost_ret (zA0 rfl (zA2 HRq.out.blk _ _).1 (zA2 HRq.out.blk _ _).2) rfl ?_;exact⟨_,_,_,by rw[HE.out];rfl,HZ.out (by rw[HE.out];decide) _ ((HBq.out.setCell HRB.out _).setCell HRB.out _)⟩
        · by_cases hhi:1048576<x.2
          · have HE:Hid (C=72):=by show _=_;rw[←HK.out];exact zBj hx (zKn hwd hhi) (by decide)
            clear hcell hx hwd hk0;go_wp2_with (go_at_call 42;refine(hw _).mono ?_;rintro e w2 ⟨rfl,hq⟩;obtain⟨q0,q1,q2,HBq,HRq,z0,z1,z2⟩:=HF2.out _ hq;clear hq);(try simp only[Exit.inBlock,Exit.then]);refine bodyPost_ret (zA0 rfl (zA2 HRq.out.blk _ _).1 (zA2 HRq.out.blk _ _).2) rfl ?_;exact⟨_,_,_,by rw[HE.out];rfl,HZ.out (by rw[HE.out];decide) _ ((HBq.out.setCell HRB.out _).setCell HRB.out _)⟩
          · have HK2:Hid (zA7 (zBz l (k+1)) (l.drop (k+1))=C):=by show _=_;rw[←HK.out];exact(zEr HX.out (zQh hwd hlo hhi HP0.out)).symm
            clear hcell hx hwd hk0;go_wp2_with (go_at_call 42;refine(hw _).mono ?_;rintro e w2 ⟨rfl,hq⟩;obtain⟨q0,q1,q2,HBq,HRq,z0,z1,z2⟩:=HF2.out _ hq;clear hq);go_quiet (fail);go_wp2;go_roundg (n-(k+1));(case measure=>omega);case rel=>exact⟨k+1,by go_num,by omega,Nat.le_refl _,belowN HBq.out nq,HK2,⟨HRq.out.blk⟩⟩
    · obtain⟨kp,hkp⟩:∃kp,kp+1=k:=⟨k-1,by omega⟩
      (have hk0z:(0:Int)<(k:Int):=by omega);have hgd:decide (0<k)=true:=decide_eq_true (by omega);(have ekp:(k:Int)-1=(kp:Int):=by omega);obtain⟨y,hy⟩:∃y,l[kp]?=some y:=⟨l[kp]'(by have:=HN.out;omega),List.getElem?_eq_getElem _⟩;obtain⟨d0,d1⟩:=hcell kp y hy;(have rkp:IntKind.i64.wrap (kp:Int)=(kp:Int):=by rw[IntKind.wrap_i64];omega);(have pkp:(0:Int)≤(kp:Int):=by omega);(have bkp:(kp:Int)<(n:Int):=by omega);(have tkp:(kp:Int).toNat=kp:=by omega);(have pk:(0:Int)≤(k:Int):=by omega);(have tk:(k:Int).toNat=k:=by omega);(have hls:=fun W=>zXh y.1 x.1 W (HS.out.at hy) (HS.out.at hx));(have HF2:Hid (∀(W:World),Below wr.heap.size wr W→W.cell? ⟨b,off+k*2,none⟩=some (.string x.1)∧W.cell? ⟨b,off+k*2+1,none⟩=some (.int .i64 x.2)∧W.cell? ⟨b,off+kp*2,none⟩=some (.string y.1)∧Hid (Below w.heap.size w W)∧Hid (RBlk rb W)∧W.cell? ⟨rb,0,none⟩=some (.int .i64 0)∧W.cell? ⟨rb,1,none⟩=some (.slice none 0 0)∧∀o,W.frozen? ⟨rb,o,none⟩=false):=fun W e=>⟨(e.cell (p:=⟨b,off+k*2,none⟩) hb).trans c0,(e.cell (p:=⟨b,off+k*2+1,none⟩) hb).trans c1,(e.cell (p:=⟨b,off+kp*2,none⟩) hb).trans d0,HB.out.trans (e.mono HB.out.size),HRW.out.below e,(HRW.out.below e).facts⟩);(have HPR:Hid (zHr (zBz l k) x=zAa y.1 x.1):=by show _=_;rw[←hkp,zBz,hy];rfl);cases hwd:zAq x.1.data.toList
      · have HE:Hid (C=71):=by show _=_;rw[←HK.out];exact zBj hx (zKm hwd) (by decide)
        rw[hwd]at hw;clear hcell hx hwd hk0 hkp hy;go_wp2_with (go_at_call 42;refine(hw _).mono ?_;rintro e w2 ⟨rfl,hq⟩;obtain⟨q0,q1,q2,HBq,HRq,z0,z1,z2⟩:=HF2.out _ hq;clear hq);(try simp only[Exit.inBlock,Exit.then]);refine bodyPost_ret (zA0 rfl (zA2 HRq.out.blk _ _).1 (zA2 HRq.out.blk _ _).2) rfl ?_;exact⟨_,_,_,by rw[HE.out];rfl,HZ.out (by rw[HE.out];decide) _ ((HBq.out.setCell HRB.out _).setCell HRB.out _)⟩
      · rw[hwd]at hw
        by_cases hlo:x.2<1
        · have HE:Hid (C=72):=by show _=_;rw[←HK.out];exact zBj hx (zOi hwd hlo) (by decide)
          clear hcell hx hwd hk0 hkp hy;go_wp2_with (go_at_call 42;refine(hw _).mono ?_;rintro e w2 ⟨rfl,hq⟩;obtain⟨q0,q1,q2,HBq,HRq,z0,z1,z2⟩:=HF2.out _ hq;clear hq);(try simp only[Exit.inBlock,Exit.then]);refine bodyPost_ret (zA0 rfl (zA2 HRq.out.blk _ _).1 (zA2 HRq.out.blk _ _).2) rfl ?_;exact⟨_,_,_,by rw[HE.out];rfl,HZ.out (by rw[HE.out];decide) _ ((HBq.out.setCell HRB.out _).setCell HRB.out _)⟩
        · by_cases hhi:1048576<x.2
          · have HE:Hid (C=72):=by show _=_;rw[←HK.out];exact zBj hx (zKn hwd hhi) (by decide)
            clear hcell hx hwd hk0 hkp hy;go_wp2_with (go_at_call 42;refine(hw _).mono ?_;rintro e w2 ⟨rfl,hq⟩;obtain⟨q0,q1,q2,HBq,HRq,z0,z1,z2⟩:=HF2.out _ hq;clear hq);(try simp only[Exit.inBlock,Exit.then]);refine bodyPost_ret (zA0 rfl (zA2 HRq.out.blk _ _).1 (zA2 HRq.out.blk _ _).2) rfl ?_;exact⟨_,_,_,by rw[HE.out];rfl,HZ.out (by rw[HE.out];decide) _ ((HBq.out.setCell HRB.out _).setCell HRB.out _)⟩
          · cases hyx:zAa y.1 x.1
            · have HE:Hid (C=73):=by show _=_;rw[←HK.out];exact zBj hx (zQi hwd hlo hhi (HPR.out.trans hyx)) (by decide)
              rw[hyx]at hls;clear hcell hx hkp hy hyx hk0 hwd;go_wp2_with (go_at_call 42;refine(hw _).mono ?_;rintro e w2 ⟨rfl,hq⟩;obtain⟨q0,q1,q2,HBq,HRq,z0,z1,z2⟩:=HF2.out _ hq;clear hq);go_quiet (first|(go_at_call 43;refine Calls.quiet_of (hls _)));go_wp2;have HRq':RBlk rb (w2.drewN nq):=⟨HRq.out.blk⟩;(try simp only[Exit.inBlock,Exit.then]);refine bodyPost_ret (zA0 rfl (zA2 HRq'.blk _ _).1 (zA2 HRq'.blk _ _).2) rfl ?_;exact⟨_,_,_,by rw[HE.out];rfl,HZ.out (by rw[HE.out];decide) _ (((belowN HBq.out nq).setCell HRB.out _).setCell HRB.out _)⟩
            · have HK2:Hid (zA7 (zBz l (k+1)) (l.drop (k+1))=C):=by show _=_;rw[←HK.out];exact(zEr HX.out (zQh hwd hlo hhi (HPR.out.trans hyx))).symm
              rw[hyx]at hls;clear hcell hx hkp hy hyx hk0 hwd;go_wp2_with (go_at_call 42;refine(hw _).mono ?_;rintro e w2 ⟨rfl,hq⟩;obtain⟨q0,q1,q2,HBq,HRq,z0,z1,z2⟩:=HF2.out _ hq;clear hq);go_quiet (first|(go_at_call 43;refine Calls.quiet_of (hls _)));go_wp2;go_roundg (n-(k+1));(case measure=>omega);case rel=>exact⟨k+1,by go_num,by omega,Nat.le_refl _,belowN HBq.out nq,HK2,⟨HRq.out.blk⟩⟩
  · have hltz:¬(k:Int)<(n:Int):=by omega
    (have HE:Hid (C=0):=by show _=_;rw[←HK.out];exact zM0 (by have:=HN.out;omega));have HCALL:=HMK.out (by rw[HC.out];exact HE.out) wr HB.out;unfold zF6 at HCALL;have hMC:Hid (Calls Tryz.prog 28 #[.slice ad n cap] wr fun e w'=>∃base vs b,e = .returned (.agg #[.int .i64 base,vs])∧BuildSays wr w' l base vs b):=HCALL;clear HCALL;(go_upto_region 5 with fail);refine hMC.out.mono ?_;rintro e w5 ⟨base,vs,b,rfl,hS⟩;obtain⟨sd,sc,hvs⟩:=hS.row.shape;obtain⟨nb,hnb⟩:∃nb,b.length=nb:=⟨_,rfl⟩;rw[hnb]at hvs;subst hvs;clear hnb;have hR5:=HRW.out.below hS.bel;have HR5:Hid (RBlk rb w5):=hR5;obtain⟨z0,z1,z2⟩:=hR5.facts;have HS5:Hid (BuildSays wr w5 l base (.slice sd nb sc) b):=hS;clear hS hR5;go_wp2;(try simp only[Exit.inBlock,Exit.then]);refine bodyPost_ret (zA0 rfl (zA2 HR5.out.blk _ _).1 (zA2 HR5.out.blk _ _).2) rfl ?_;have hb5:Below w.heap.size w w5:=HB.out.trans (HS5.out.bel.mono HB.out.size);have hrl:=HRW.out.lt
    have hkeep:∀x y,StRow w.heap.size ((w5.setCell ⟨rb,0,none⟩ x).setCell ⟨rb,1,none⟩ y) (.slice sd nb sc) b:=fun x y=>
     (HS5.out.row.same fun g hg=>by rw[zAc _ _ _ _ (by omega),zAc _ _ _ _ (by omega)]).mono HB.out.size
    exact⟨_,_,_,by rw[HE.out];rfl,(hb5.setCell HRB.out _).setCell HRB.out _,hkeep _ _,HS5.out.mach⟩
