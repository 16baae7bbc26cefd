import Derived.Test.YtkdhdehobdfakaaGreatDoorBtHeap2
import Derived.Calls
set_option maxRecDepth 100000
set_option maxHeartbeats 8000000
namespace Go.Proofs.YtkdhdehobdfakaaGreatDoor
section
open Go.RowKit Go.Lib Nums Pm
namespace Bt
theorem zD7(w1:World)(mb:Nat)(a b c:Value)(hb:w1.heap[mb]?=some (.cells #[a,b,c] 52))(x:Mt):
 ∃W,zDa Tryz.prog (.pointer (some ⟨mb,0,none⟩)) (valM x) w1 = .ok () W∧Upd (fun k=>k=mb) w1 W∧W.heap[mb]?=some (.cells (cellsM x).toArray 52):=by
 refine⟨w1.setCells mb 0 (cellsM x),zC9 (u:=a) (v:=b) (z:=c) (by simp[World.cell?,hb]) (by simp[World.cell?,hb]) (by simp[World.cell?,hb]) (by simp[World.frozen?,hb]) (by simp[World.frozen?,hb]) (by simp[World.frozen?,hb]),Upd.setCells (F:=fun k=>k=mb) rfl _ _ (Upd.refl _ _),?_⟩;simp[cellsM,World.setCells,World.setCell,Array.getElem?_modify,hb]
theorem zD8{W:World}{mb:Nat}{x:Mt}(h:W.heap[mb]?=some (.cells (cellsM x).toArray 52)):W.cell? ⟨mb,0,none⟩=some (.string x.1)∧W.cell? ⟨mb,1,none⟩=some (.int .i64 x.2.1)∧W.cell? ⟨mb,2,none⟩=some (.int .i64 x.2.2):=by
 refine⟨by simp[World.cell?,h,cellsM],by simp[World.cell?,h,cellsM],by simp[World.cell?,h,cellsM]⟩
theorem zK6{W:World}{mb:Nat}{x:Mt}(h:W.heap[mb]?=some (.cells (cellsM x).toArray 52)):zFx Tryz.prog (.pointer (some ⟨mb,0,none⟩)) W = .ok (valM x) W:=by
 obtain⟨c0,c1,c2⟩:=zD8 h;exact zDr c0 c1 c2
theorem zSi{tmps:Array Value}{w:World}{rb:Nat}{a b c:Value}(h2:tmps.getD 2 undef = .pointer (some ⟨rb,0,none⟩))(c0:w.cell? ⟨rb,0,none⟩=some a)(c1:w.cell? ⟨rb,1,none⟩=some b)(c2:w.cell? ⟨rb,2,none⟩=some c):(results Tryz.f106 tmps).run Tryz.prog w = .ok (.agg #[a,b,c]) w:=by
 have h2':tmps[2]?.getD undef = .pointer (some ⟨rb,0,none⟩):=by simpa using h2
 simp[results,Tryz.results106,go_sem,h2',c0,c1,c2]
theorem zJh{tmps:Array Value}{w:World}{rb:Nat}{a b c:Value}(h2:tmps.getD 2 undef = .pointer (some ⟨rb,0,none⟩))(c0:w.cell? ⟨rb,0,none⟩=some a)(c1:w.cell? ⟨rb,1,none⟩=some b)(c2:w.cell? ⟨rb,2,none⟩=some c):(results Tryz.f104 tmps).run Tryz.prog w = .ok (.tuple #[.agg #[a,b,c],tmps.getD 3 undef]) w:=by
 have h2':tmps[2]?.getD undef = .pointer (some ⟨rb,0,none⟩):=by simpa using h2
 simp[results,Tryz.results104,go_sem,h2',c0,c1,c2]
attribute [local go_sem ↓] zB6 zBt
theorem zFk(B:Nat)(w:World)(p:Nat)(room:Int)(v:Value)(h:List Mt)(n:Nat)(K:KAt B w p room v h)(H:Hp h.length h)(hn:h.length=n+1)(hl:h.length<549755813888):
 Calls Tryz.prog 106 #[.pointer (some ⟨p,0,none⟩)] w fun e w'=>e = .returned (valM (el h 0))∧∃v' h',KAt B w' p room v' h'∧Upd (KF p v) w w'∧v'.ownBlock=v.ownBlock∧(el h 0::h').Perm h∧Hp h'.length h'∧h'.length=n:=by
 obtain⟨V1,hV1⟩:∃V1,w.alloc (.cells #[.string ⟨#[]⟩,.int .i64 0,.int .i64 0] 52)=V1:=⟨_,rfl⟩;obtain⟨mb,hmb⟩:∃mb,w.heap.size=mb:=⟨_,rfl⟩;have hb1:Below w.heap.size w V1:=by rw[←hV1];exact(Below.refl _ w).alloc (Nat.le_refl _) _
 have hn1:V1.heap[mb]?=some (.cells #[.string ⟨#[]⟩,.int .i64 0,.int .i64 0] 52):=by rw[←hV1,←hmb];exact zBu _ _
 have hmk:∀k,KF p v k→k<mb:=fun k hk=>by
  rcases hk with rfl|hk
  · have:=K.lt;omega
  · have:=K.row.lt hk;omega
 have HB1:Hid (Below w.heap.size w V1):=hb1;have HMK:Hid (∀k,KF p v k→k<mb):=hmk;have HN1:Hid (V1.heap[mb]?=some (.cells #[.string ⟨#[]⟩,.int .i64 0,.int .i64 0] 52)):=hn1;have HPO:Hid (Calls Tryz.prog 139 #[.iface 188 (.pointer (some ⟨p,1,none⟩))] V1 fun e w'=>e = .returned (.iface 52 (valM (el h 0)))∧∃v' h',KAt B w' p room v' h'∧Upd (KF p v) V1 w'∧v'.ownBlock=v.ownBlock∧(el h 0::h').Perm h∧Hp h'.length h'∧h'.length=n):=Pop_any B V1 p room v h n (K.below hb1) H hn hl;have HM:Hid (w.heap.size=mb):=hmb;have hta:=zHy;clear K H hn hb1 hn1 hmk;go_enter Tryz.func106,Tryz.ntmps106;go_upto_region 1 with fail
 clear hV1 hmb;go_wp2_with (go_at_call 139;refine HPO.out.mono ?_;rintro e w2 ⟨rfl,v2,h2,hK2,hu2,hx2,hr2⟩;have hm2:=(hu2.block mb (Array.getElem?_eq_some_iff.1 HN1.out).1 (fun f=>by have:=HMK.out mb f;omega)).trans HN1.out;obtain⟨W,hst,huW,hcW⟩:=zD7 w2 mb _ _ _ hm2 (el h 0);clear hm2;have HKK:Hid (KAt B w2 p room v2 h2∧Upd (KF p v) V1 w2∧v2.ownBlock=v.ownBlock∧(el h 0::h2).Perm h∧Hp h2.length h2∧h2.length=n):=⟨hK2,hu2,hx2,hr2⟩;have HUW:Hid (Upd (fun k=>k=mb) w2 W):=huW;have HCW:Hid (W.heap[mb]?=some (.cells (cellsM (el h 0)).toArray 52)):=hcW;clear hK2 hu2 hx2 hr2 huW hcW);obtain⟨c0,c1,c2⟩:=zD8 HCW.out;refine bodyPost_ret (zSi rfl c0 c1 c2) rfl ?_;have hmk2:∀k,KF p v2 k→k<mb:=fun k hk=>by
  rcases hk with rfl|hk
  · exact HMK.out _ (.inl rfl)
  · exact HMK.out _ (.inr (HKK.out.2.2.1▸hk))
 refine⟨rfl,v2,h2,HKK.out.1.upd HUW.out (fun k hk e=>by have:=hmk2 k hk;omega),?_,HKK.out.2.2⟩;have u1:Upd (KF p v) w w2:=(zAm HB1.out).trans HKK.out.2.1 (fun _ _ f=>f);exact⟨HUW.out.os.trans u1.os,HUW.out.tape.trans u1.tape,HUW.out.output.trans u1.output,Nat.le_trans u1.size HUW.out.size,fun k hk hf=>(HUW.out.block k (Nat.lt_of_lt_of_le hk u1.size) (by have:=HM.out;show ¬k=mb;omega)).trans (u1.block k hk hf)⟩
theorem zOc(B:Nat)(w:World)(p:Nat)(room:Int)(v:Value)(h:List Mt)(K:KAt B w p room v h):
 Calls Tryz.prog 104 #[.pointer (some ⟨p,0,none⟩)] w fun e w'=>e = .returned (.tuple #[valM (el h 0),.bool (decide (0<h.length))])∧Below w.heap.size w w':=by
 obtain⟨V1,hV1⟩:∃V1,w.alloc (.cells #[.string ⟨#[]⟩,.int .i64 0,.int .i64 0] 52)=V1:=⟨_,rfl⟩;obtain⟨mb,hmb⟩:∃mb,w.heap.size=mb:=⟨_,rfl⟩;have hb1:Below w.heap.size w V1:=by rw[←hV1];exact(Below.refl _ w).alloc (Nat.le_refl _) _
 have hn1:V1.heap[mb]?=some (.cells #[.string ⟨#[]⟩,.int .i64 0,.int .i64 0] 52):=by rw[←hV1,←hmb];exact zBu _ _
 have K1:=K.below hb1;have HL:Hid (Calls Tryz.prog 103 #[.pointer (some ⟨p,0,none⟩)] V1 fun e w'=>e = .returned (.int .i64 h.length)∧w'=V1):=zL8 B V1 p room v h K1;have HFIN:Hid (∀W,Upd (fun k=>k=mb) V1 W→Below w.heap.size w W):=fun W u=>hb1.trans (u.below (B:=w.heap.size) (fun k e=>by have:k=mb:=e;omega) hb1.size)
 have c1:=K1.c1;by_cases h0:h.length=0
 · obtain⟨W,hst,huW,hcW⟩:=zD7 V1 mb _ _ _ hn1 (⟨#[]⟩,0,0)
   have HE:Hid (valM (el h 0) = .agg #[.string ⟨#[]⟩,.int .i64 0,.int .i64 0]):=by
    have:h=[]:=List.length_eq_zero_iff.1 h0;subst this;rfl
   have HD:Hid (decide (0<h.length)=false):=decide_eq_false (by omega);have HB:Hid (Below w.heap.size w W):=HFIN.out W huW;rw[h0]at HL;have hst2:zDa Tryz.prog (.pointer (some ⟨mb,0,none⟩)) (.agg #[.string ⟨#[]⟩,.int .i64 0,.int .i64 0]) V1 = .ok () W:=hst;have HC:=zD8 hcW;clear K K1 hb1 hn1 h0 hst huW hcW HFIN;go_enter Tryz.func104,Tryz.ntmps104;go_wp2_with (go_at_call 103;refine HL.out.mono ?_;rintro e w2 ⟨rfl,hw2⟩;replace hw2:=hw2.symm;subst hw2);refine bodyPost_ret (zJh rfl HC.1 HC.2.1 HC.2.2) rfl ?_;exact⟨by rw[HE.out,HD.out];rfl,HB.out⟩
 · obtain⟨W,hst,huW,hcW⟩:=zD7 V1 mb _ _ _ hn1 (el h 0)
   have HB:Hid (Below w.heap.size w W):=HFIN.out W huW;have HD:Hid (decide (0<h.length)=true):=decide_eq_true (by omega);obtain⟨g,cap,hv,hg,_,hcap,hc⟩:=GOwn.mt K1.row (by omega);obtain⟨n0,n1,n2,_⟩:=hc 0 (by omega);rw[Nat.zero_mul]at n0 n1 n2;have hld:zFx Tryz.prog (.pointer (some ⟨g,0,none⟩)) V1 = .ok (valM (el h 0)) V1:=zDr n0 n1 n2;obtain⟨n,hn⟩:∃n,h.length=n:=⟨_,rfl⟩;rw[hn]at hv HL h0 hcap;rw[hv]at c1;(have hz:((n:Int)==0)=false:=by simp;omega);(have hz2:(0:Int)<(n:Int):=by omega);have HC:=zD8 hcW;clear K K1 hb1 hn1 huW hcW HFIN hc n0 n1 n2 hn hv;go_enter Tryz.func104,Tryz.ntmps104;go_wp2_with (go_at_call 103;refine HL.out.mono ?_;rintro e w2 ⟨rfl,hw2⟩;replace hw2:=hw2.symm;subst hw2);refine bodyPost_ret (zJh rfl HC.1 HC.2.1 HC.2.2) rfl ?_;exact⟨by rw[HD.out];rfl,HB.out⟩
theorem New_any(w:World)(k:Int):Calls Tryz.prog 69 #[.int .i64 k] w fun e w'=>e = .returned (.pointer (some ⟨w.heap.size,0,none⟩))∧KAt w.heap.size w' w.heap.size (min k 64) (.slice none 0 0) []∧Below w.heap.size w w':=by
 go_enter Tryz.func69,Tryz.ntmps69;go_wp2;go_ret;have hn:=zBu w (.cells #[.int .i64 (min k 64),.slice none 0 0] 183);have hb:=(Below.refl w.heap.size w).alloc (Nat.le_refl _) (.cells #[.int .i64 (min k 64),.slice none 0 0] 183);generalize w.alloc (.cells #[.int .i64 (min k 64),.slice none 0 0] 183)=W at hn hb ⊢;exact⟨rfl,⟨Nat.le_refl _,(Array.getElem?_eq_some_iff.1 hn).1,by simp[World.cell?,hn],by simp[World.cell?,hn],by simp[World.frozen?,hn],GOwn.nil _ _ _ _,by simp[Value.ownBlock]⟩,hb⟩
end Bt
end
section
open Go.RowKit Go.Lib Nums Pm
namespace Bt
def zI1(k:Nat)(out:List Mt)(m:Mt):Bool:=decide (out.length<k)||(decide (0<k)&&btr m (el out (k-1)))
structure AddSays(B:Nat)(w w':World)(p:Nat)(room:Int)(v:Value)(out:List Mt)(m:Mt):Prop where
 ex:∃v' h',KAt B w' p room v' h'∧Kp room.toNat (stp room.toNat out m) h'∧Nxt w v v'
 up:Upd (KF p v) w w'
def SAdd(mb:Nat)(m:Mt)(W:World):Prop:=W.heap[mb]?=some (.cells (cellsM m).toArray 52)
theorem SAdd.facts{mb:Nat}{m:Mt}{W:World}(h:SAdd mb m W):W.cell? ⟨mb,0,none⟩=some (.string m.1)∧W.cell? ⟨mb,1,none⟩=some (.int .i64 m.2.1)∧W.cell? ⟨mb,2,none⟩=some (.int .i64 m.2.2):=zD8 h
theorem zR9{B:Nat}{w wz:World}{p:Nat}{room:Int}{v v1:Value}{h1 out:List Mt}{m:Mt}{mb:Nat}(K1:KAt B wz p room v1 h1)(H1:Hp h1.length h1)(hl:h1.length<549755813888)(hx:v1.ownBlock=v.ownBlock)(hu:Upd (KF p v) w wz)(hS:SAdd mb m wz)(hmk:∀k,KF p v k→k<mb)(hKp:∀h',h'.Perm (h1++[m])→Hp h'.length h'→Kp room.toNat (stp room.toNat out m) h'):
 Calls Tryz.prog 107 #[zGn p,.iface 52 (valM m)] wz.drew fun e w'=>e = .returned (.tuple #[])∧SAdd mb m w'∧AddSays B w w' p room v out m:=by
 have hb:Below wz.heap.size wz wz.drew:=(Below.refl _ wz).drew;have e:KF p v1=KF p v:=by funext k;unfold KF;rw[hx]
 refine(Push_any B wz.drew p room v1 h1 m (K1.below hb) H1 hl).mono ?_;rintro e' w' ⟨rfl,v',h',hK,hu',hx',hp,hh⟩;rw[e]at hu';refine⟨rfl,?_,⟨v',h',hK,hKp h' hp hh,?_⟩,(hu.trans (G:=fun _=>False) (zAm hb) (fun _ _ f=>f.elim)).trans hu' (fun _ _ f=>f)⟩
 · unfold SAdd at hS ⊢
   rw[hu'.block mb (Array.getElem?_eq_some_iff.1 hS).1 (fun f=>by have:=hmk mb f;omega)];exact hS
 · rcases hx' with e2|⟨g,e2,hg⟩
   · exact .inl (e2.trans hx)
   · exact .inr ⟨g,e2,Nat.le_trans hu.size hg⟩
theorem zSf{k:Nat}{out:List Mt}(m:Mt)(h:out.length<k):zI1 k out m=true:=by unfold zI1;rw[decide_eq_true h];rfl
theorem el_last(ini:List Mt)(z:Mt):el (ini++[z]) ini.length=z:=by unfold el;simp
theorem zSg{k:Nat}{ini:List Mt}{z:Mt}(m:Mt)(hk:k=ini.length+1):zI1 k (ini++[z]) m=btr m z:=by
 unfold zI1;rw[decide_eq_false (by simp;omega),decide_eq_true (show 0<k by omega),show k-1=ini.length by omega,el_last];simp
theorem zSe{k:Nat}(m:Mt)(hk:k=0):zI1 k [] m=false:=by subst hk;rfl
theorem zFg{B:Nat}{w wz w2:World}{p:Nat}{room:Int}{v:Value}{h:List Mt}{m:Mt}{mb:Nat}(K:KAt B wz p room v h)(hS:SAdd mb m wz)(hu:Upd (KF p v) w wz)(hb2:Below wz.heap.size wz w2)(x:Mt):
 ∃W3,zDa Tryz.prog (.pointer (some ⟨w2.heap.size,0,none⟩)) (valM x) (w2.alloc (.cells #[.string ⟨#[]⟩,.int .i64 0,.int .i64 0] 52)) = .ok () W3∧Hid (KAt B W3 p room v h∧SAdd mb m W3∧Upd (KF p v) w W3)∧zFx Tryz.prog (.pointer (some ⟨mb,0,none⟩)) W3 = .ok (valM m) W3∧zFx Tryz.prog (.pointer (some ⟨w2.heap.size,0,none⟩)) W3 = .ok (valM x) W3:=by
 obtain⟨V3,hV3⟩:∃V3,w2.alloc (.cells #[.string ⟨#[]⟩,.int .i64 0,.int .i64 0] 52)=V3:=⟨_,rfl⟩;have hb3:Below w2.heap.size w2 V3:=by rw[←hV3];exact(Below.refl _ w2).alloc (Nat.le_refl _) _
 have hn3:V3.heap[w2.heap.size]?=some (.cells #[.string ⟨#[]⟩,.int .i64 0,.int .i64 0] 52):=by rw[←hV3];exact zBu _ _
 obtain⟨W3,hst,hu3,hc3⟩:=zD7 V3 w2.heap.size _ _ _ hn3 x;have hbz3:Below wz.heap.size wz V3:=hb2.trans (hb3.mono hb2.size);have hb33:Below wz.heap.size wz W3:=hbz3.trans (hu3.below (B:=wz.heap.size) (fun k e=>by have:k=w2.heap.size:=e;have:=hb2.size;omega) hbz3.size);have HS3:SAdd mb m W3:=by
  unfold SAdd;rw[hb33.block mb (Array.getElem?_eq_some_iff.1 hS).1];exact hS
 rw[hV3];exact⟨W3,hst,⟨K.below hb33,HS3,hu.trans (G:=fun _=>False) (zAm hb33) (fun _ _ f=>f.elim)⟩,zK6 HS3,zK6 hc3⟩
attribute [local go_sem ↓] zB6 zBt
theorem Add_any(B:Nat)(w:World)(p:Nat)(room:Int)(v:Value)(h out:List Mt)(m:Mt)(K:KAt B w p room v h)(KP:Kp room.toNat out h)(hr:room≤64):
 Calls Tryz.prog 70 #[.pointer (some ⟨p,0,none⟩),valM m] w fun e w'=>e = .returned (.bool (zI1 room.toNat out m))∧AddSays B w w' p room v out m:=by
 obtain⟨V1,hV1⟩:∃V1,w.alloc (.cells #[.string m.1,.int .i64 m.2.1,.int .i64 m.2.2] 52)=V1:=⟨_,rfl⟩;obtain⟨mb,hmb⟩:∃mb,w.heap.size=mb:=⟨_,rfl⟩;have hb1:Below w.heap.size w V1:=by rw[←hV1];exact(Below.refl _ w).alloc (Nat.le_refl _) _
 have HN1:Hid (SAdd mb m V1):=by show SAdd mb m V1;unfold SAdd;rw[←hV1,←hmb];exact zBu _ _
 have HK1:Hid (KAt B V1 p room v h):=K.below hb1;have HB1:Hid (Below w.heap.size w V1):=hb1;have HMK:Hid (∀k,KF p v k→k<mb):=fun k hk=>by
  rcases hk with rfl|hk
  · have:=K.lt;omega
  · have:=K.row.lt hk;omega
 have HKP:Hid (Kp room.toNat out h):=KP;have HMB:Hid (w.heap.size=mb):=hmb;have HLO:=KP.same_len;have c0:=HK1.out.c0;have HL:∀q,Calls Tryz.prog 103 #[.pointer (some ⟨p,0,none⟩)] (V1.drewN q) fun e w'=>e = .returned (.int .i64 h.length)∧w'=V1.drewN q:=fun q=>zL8 B (V1.drewN q) p room v h (HK1.out.below (belowN (Below.refl _ _) q))
 obtain⟨n,hn⟩:∃n,h.length=n:=⟨_,rfl⟩;have HN:Hid (h.length=n):=hn;rw[hn]at HL;unfold valM;clear K KP hb1;by_cases c:(n:Int)≥room
 · have hcb:decide ((n:Int)≥room)=true:=decide_eq_true c
   have hc2:room≤(n:Int):=c;by_cases hn0:n=0
   · subst hn0
     have HH:Hid (h=[]):=List.length_eq_zero_iff.1 HN.out;have HO:Hid (out=[]):=List.length_eq_zero_iff.1 (by have:=HLO;have:=HN.out;omega);(have HWB:Hid (zI1 room.toNat out m=false):=by show _=_;rw[HO.out];exact zSe m (by omega));(have HT:Hid (room.toNat=0):=by show room.toNat=0;omega);have HWO:Hid (∀W,KAt B W p room v h→Calls Tryz.prog 104 #[.pointer (some ⟨p,0,none⟩)] W fun e w'=>e = .returned (.tuple #[valM (el h 0),.bool false])∧Below W.heap.size W w'):=fun W hW=>by
      have:=zOc B W p room v h hW;rw[HN.out]at this;exact this
     have hc3:decide (room≤0)=true:=decide_eq_true (by omega);(have hc4:room≤0:=by omega);clear HLO hn;go_enter Tryz.func70,Tryz.ntmps70;go_wp2_with fail;go_quiet ((go_at_call 103;exact Calls.quiet_of_same (HL _)));obtain⟨wz,hwz⟩:∃wz,wz=V1.drewN nq:=⟨_,rfl⟩;(have HBZ:Hid (Below V1.heap.size V1 wz):=by show Below _ _ _;rw[hwz];exact belowN (Below.refl _ _) nq);have HKZ:Hid (KAt B wz p room v h):=HK1.out.below HBZ.out;(have HSZ:Hid (SAdd mb m wz):=by show SAdd mb m wz;rw[hwz];exact HN1.out);have HUZ:Hid (Upd (KF p v) w wz):=(zAm HB1.out).trans (G:=fun _=>False) (zAm HBZ.out) (fun _ _ f=>f.elim);rw[←hwz];clear hwz HL c0;clear hV1 hmb;(go_upto_region 2 with fail);go_wp2_with (go_at_call 104;refine(HWO.out wz HKZ.out).mono ?_;rintro e w2 ⟨rfl,hb2⟩;obtain⟨W3,hst,H3,lm,lx⟩:=zFg HKZ.out HSZ.out HUZ.out hb2 (el h 0);clear hb2);go_ret;exact⟨by rw[HWB.out];rfl,⟨v,h,H3.out.1,by rw[HT.out,stp_zero,HH.out];exact Kp.nil 0,.inl rfl⟩,H3.out.2.2⟩
   · have HWO:Hid (∀W,KAt B W p room v h→Calls Tryz.prog 104 #[.pointer (some ⟨p,0,none⟩)] W fun e w'=>e = .returned (.tuple #[valM (el h 0),.bool true])∧Below W.heap.size W w'):=fun W hW=>by
      have:=zOc B W p room v h hW;rw[decide_eq_true (by have:=HN.out;omega)]at this;exact this
     (have HBE:Hid (∀W,Calls Tryz.prog 105 #[valM m,valM (el h 0)] W fun e w'=>e = .returned (.bool (btr m (el h 0)))∧Below W.heap.size W w'):=fun W=>zKf m (el h 0) W);obtain⟨ini,hini⟩:=HKP.out.worst (by have:=HN.out;omega);have HIN:Hid (out=ini++[el h 0]):=hini;have HRT:Hid (room.toNat=ini.length+1∧n=ini.length+1):=by
      have h1:=HKP.out.len;rw[hini,List.length_append,List.length_singleton]at h1;rw[hini,List.length_append,List.length_singleton]at HLO;have:=HN.out;exact⟨by omega,by omega⟩
     obtain⟨bt,hbt⟩:∃b,btr m (el h 0)=b:=⟨_,rfl⟩;have HBT:Hid (btr m (el h 0)=bt):=hbt;(have HWB:Hid (zI1 room.toNat out m=bt):=by show _=_;rw[HIN.out,zSg m HRT.out.1];exact hbt);rw[hbt]at HBE;clear HLO hn hini hbt;cases bt
     · have HST:Hid (stp room.toNat out m=out):=by
        show _=_;have:=HKP.out.srt;rw[HIN.out]at this ⊢;exact stp_no m this HRT.out.1 HBT.out
       go_enter Tryz.func70,Tryz.ntmps70;go_wp2_with fail;go_quiet ((go_at_call 103;exact Calls.quiet_of_same (HL _)));obtain⟨wz,hwz⟩:∃wz,wz=V1.drewN nq:=⟨_,rfl⟩;(have HBZ:Hid (Below V1.heap.size V1 wz):=by show Below _ _ _;rw[hwz];exact belowN (Below.refl _ _) nq);have HKZ:Hid (KAt B wz p room v h):=HK1.out.below HBZ.out;(have HSZ:Hid (SAdd mb m wz):=by show SAdd mb m wz;rw[hwz];exact HN1.out);have HUZ:Hid (Upd (KF p v) w wz):=(zAm HB1.out).trans (G:=fun _=>False) (zAm HBZ.out) (fun _ _ f=>f.elim);rw[←hwz];clear hwz HL c0;clear hV1 hmb
       go_wp2_with (first
        |(go_at_call 104;refine(HWO.out wz HKZ.out).mono ?_;rintro e w2 ⟨rfl,hb2⟩;obtain⟨W3,hst,H3,lm,lx⟩:=zFg HKZ.out HSZ.out HUZ.out hb2 (el h 0);clear hb2)
        |(go_at_call 105;refine(HBE.out W3).mono ?_;rintro e w4 ⟨rfl,hb4⟩;have HB4:Hid (Below W3.heap.size W3 w4):=hb4;clear hb4))
       go_ret;exact⟨by rw[HWB.out];rfl,⟨v,h,H3.out.1.below HB4.out,by rw[HST.out];exact HKP.out,.inl rfl⟩,H3.out.2.2.trans (G:=fun _=>False) (zAm HB4.out) (fun _ _ f=>f.elim)⟩
     · have HST:Hid (stp room.toNat out m=ins m ini):=by
        show _=_;rw[HIN.out];exact stp_yes m HRT.out.1 HBT.out
       go_enter Tryz.func70,Tryz.ntmps70;go_wp2_with fail;go_quiet ((go_at_call 103;exact Calls.quiet_of_same (HL _)));obtain⟨wz,hwz⟩:∃wz,wz=V1.drewN nq:=⟨_,rfl⟩;(have HBZ:Hid (Below V1.heap.size V1 wz):=by show Below _ _ _;rw[hwz];exact belowN (Below.refl _ _) nq);have HKZ:Hid (KAt B wz p room v h):=HK1.out.below HBZ.out;(have HSZ:Hid (SAdd mb m wz):=by show SAdd mb m wz;rw[hwz];exact HN1.out);have HUZ:Hid (Upd (KF p v) w wz):=(zAm HB1.out).trans (G:=fun _=>False) (zAm HBZ.out) (fun _ _ f=>f.elim);rw[←hwz];clear hwz HL c0;clear hV1 hmb
       go_upto_region 6 with(first
        |(go_at_call 104;refine(HWO.out wz HKZ.out).mono ?_;rintro e w2 ⟨rfl,hb2⟩;obtain⟨W3,hst,H3,lm,lx⟩:=zFg HKZ.out HSZ.out HUZ.out hb2 (el h 0);clear hb2)
        |(go_at_call 105;refine(HBE.out W3).mono ?_;rintro e w4 ⟨rfl,hb4⟩;have HB4:Hid (Below W3.heap.size W3 w4):=hb4;clear hb4)
        |(go_at_call 106;refine(zFk B w4 p room v h (n-1) (H3.out.1.below HB4.out) HKP.out.hp (by have:=HN.out;omega) (by have:=HN.out;have:=HRT.out;omega)).mono ?_;rintro e w5 ⟨rfl,v5,h5,hK5,hu5,hx5,hp5,hh5,hl5⟩))
       have HPU:Hid (Calls Tryz.prog 107 #[zGn p,.iface 52 (valM m)] w5.drew fun e w'=>e = .returned (.tuple #[])∧SAdd mb m w'∧AddSays B w w' p room v out m):=by
        have hu4:=H3.out.2.2.trans (G:=fun _=>False) (zAm HB4.out) (fun _ _ f=>f.elim);refine zR9 hK5 hh5 (by have:=HRT.out;omega) hx5 (hu4.trans hu5 (fun _ _ f=>f)) ?_ HMK.out (fun h' hp' hh'=>?_)
        · have h4:SAdd mb m w4:=by
           unfold SAdd;rw[HB4.out.block mb (Array.getElem?_eq_some_iff.1 H3.out.2.1).1];exact H3.out.2.1
          unfold SAdd;rw[hu5.block mb (Array.getElem?_eq_some_iff.1 h4).1 (fun f=>by have:=HMK.out mb f;omega)];exact h4
        · have K1:=HKP.out
          rw[HIN.out]at K1;have K2:Kp room.toNat ini h5:=K1.less hh5 hp5;rw[HST.out];exact K2.add m (by have:=HRT.out;omega) hh' hp'
       have HSZ2:Hid (SAdd mb m w5):=by
        have h4:SAdd mb m w4:=by
         unfold SAdd;rw[HB4.out.block mb (Array.getElem?_eq_some_iff.1 H3.out.2.1).1];exact H3.out.2.1
        show SAdd mb m w5;unfold SAdd;rw[hu5.block mb (Array.getElem?_eq_some_iff.1 h4).1 (fun f=>by have:=HMK.out mb f;omega)];exact h4
       clear HSZ HUZ HKZ HBZ hK5 hu5 hx5 hp5 hh5 hl5 lm lx hst;refine zAh (S:=SAdd mb m) 7 rfl zM9 (show SAdd mb m w5.drew from HSZ2.out) (fun _=>?_);refine tq4 SAdd.facts 0 29 1 30 2 31 3 32 ?_;simp only[sZa,sZb,sZc];refine tq2 SAdd.facts 4 33 5 34 ?_;simp only[sZa,sZb,sZc];refine zFv (i:=6) (w0:=w5.drew) 35 107 #[zGn p,.iface 52 (valM m)] (by kernel_rfl) rfl rfl (by rfl) (by kernel_rfl) (HPU.out.mono ?_);rintro e wy ⟨rfl,hSy,hA⟩;refine⟨_,rfl,hSy,fun _=>?_⟩;simp only[sZa,sZb,sZc];refine wpAnyH_done (by kernel_rfl) ?_ _;go_wp2;go_ret;exact⟨by rw[HWB.out];rfl,hA⟩
 · have hcb:decide ((n:Int)≥room)=false:=decide_eq_false c
   have hc2:¬room≤(n:Int):=c;have HWB:Hid (zI1 room.toNat out m=true):=zSf m (by have:=HN.out;omega);(have HLT:Hid (out.length<room.toNat):=by have:=HN.out;show out.length<room.toNat;omega);clear HLO hn;go_enter Tryz.func70,Tryz.ntmps70;go_wp2_with fail;go_quiet ((go_at_call 103;exact Calls.quiet_of_same (HL _)));obtain⟨wz,hwz⟩:∃wz,wz=V1.drewN nq:=⟨_,rfl⟩;(have HBZ:Hid (Below V1.heap.size V1 wz):=by show Below _ _ _;rw[hwz];exact belowN (Below.refl _ _) nq);have HKZ:Hid (KAt B wz p room v h):=HK1.out.below HBZ.out;(have HSZ:Hid (SAdd mb m wz):=by show SAdd mb m wz;rw[hwz];exact HN1.out);have HUZ:Hid (Upd (KF p v) w wz):=(zAm HB1.out).trans (G:=fun _=>False) (zAm HBZ.out) (fun _ _ f=>f.elim);rw[←hwz];clear hwz HL c0;go_upto_region 6 with fail
   have HPU:Hid (Calls Tryz.prog 107 #[zGn p,.iface 52 (valM m)] wz.drew fun e w'=>e = .returned (.tuple #[])∧SAdd mb m w'∧AddSays B w w' p room v out m):=
    zR9 HKZ.out HKP.out.hp (by have:=HN.out;omega) rfl HUZ.out HSZ.out HMK.out (fun h' hp' hh'=>by rw[stp_room m HLT.out];exact HKP.out.add m HLT.out hh' hp')
   refine zAh (S:=SAdd mb m) 7 rfl zM9 (show SAdd mb m wz.drew from HSZ.out) (fun _=>?_);refine tq4 SAdd.facts 0 29 1 30 2 31 3 32 ?_;simp only[sZa,sZb,sZc];refine tq2 SAdd.facts 4 33 5 34 ?_;simp only[sZa,sZb,sZc];refine zFv (i:=6) (w0:=wz.drew) 35 107 #[zGn p,.iface 52 (valM m)] (by kernel_rfl) rfl rfl (by rfl) (by kernel_rfl) (HPU.out.mono ?_);rintro e wy ⟨rfl,hSy,hA⟩;refine⟨_,rfl,hSy,fun _=>?_⟩;simp only[sZa,sZb,sZc];refine wpAnyH_done (by kernel_rfl) ?_ _;go_wp2;go_ret;exact⟨by rw[HWB.out];rfl,hA⟩
end Bt
end
section
open Go.RowKit Go.Lib Nums Pm
namespace Bt
theorem zV6(a b c:Value)(n:Nat):(madeCells #[a,b,c] (n*3)).toList=(List.replicate n [a,b,c]).flatten:=by
 apply List.ext_getElem?;intro q;by_cases hq:q<n*3
 · have e:q=(q/3)*3+q%3:=by omega
   have h3:q%3<3:=Nat.mod_lt _ (by decide);(have h1:(List.replicate n [a,b,c])[q/3]?=some [a,b,c]:=by rw[List.getElem?_replicate,if_pos (by omega)]);obtain⟨u,hu⟩:∃u,[a,b,c][q%3]?=some u:=⟨[a,b,c][q%3],List.getElem?_eq_getElem (by simpa using h3)⟩;have h2:=zLo (k:=3) (List.replicate n [a,b,c]) (fun x hx=>by rw[List.eq_of_mem_replicate hx];rfl) (q/3) (q%3) _ u h1 hu;rw[←e]at h2;rw[h2];(have h4:q%3=0∨q%3=1∨q%3=2:=by omega);simp only[madeCells];rcases h4 with h4|h4|h4<;>rw[h4]at hu<;>simp[hq,h4]at hu ⊢<;>exact hu
 · rw[List.getElem?_eq_none (by simp[madeCells];omega),List.getElem?_eq_none (by simp;omega)]
structure TkR(B:Nat)(w:World)(p:Nat)(room:Int)(v:Value)(out:List Mt)(lb n k:Nat)(wr:World)(h:List Mt)(vk:Value)(xs:List (List Value)):Prop where
 K:KAt B wr p room vk h
 own:vk.ownBlock=v.ownBlock
 kp:Kp room.toNat (out.take k) h
 row:GOwn 52 3 w.heap.size wr (.slice (some ⟨lb,0,none⟩) n n) xs
 len:xs.length=n
 dn:xs.drop k=(out.drop k).map cellsM
 up:Upd (KF p v) w wr
 lbg:w.heap.size≤lb
 hlt:∀k,KF p v k→k<w.heap.size
theorem TkR.put{B:Nat}{w:World}{p:Nat}{room:Int}{v:Value}{out:List Mt}{lb n k:Nat}{wr w1:World}{h h1:List Mt}{vk v1:Value}{xs:List (List Value)}(R:TkR B w p room v out lb n (k+1) wr h vk xs)(hout:out.length=n)(hkn:k<n)
 (K1:KAt B w1 p room v1 h1) (u1:Upd (KF p vk) wr w1) (hx1:v1.ownBlock=vk.ownBlock) (hp1:(el h 0::h1).Perm h) (hh1:Hp h1.length h1):
 ∃W,zDa Tryz.prog (.pointer (some ⟨lb,k*3,none⟩)) (valM (el h 0)) w1 = .ok () W∧TkR B w p room v out lb n k W h1 v1 (xs.set k (cellsM (el h 0))):=by
 have hlb:∀j,KF p v j→¬j=lb:=fun j hj=>by have:=R.hlt j hj;have:=R.lbg;omega
 have e1:KF p vk=KF p v:=by funext j;unfold KF;rw[R.own]
 have e2:KF p v1=KF p v:=by funext j;unfold KF;rw[hx1,R.own]
 rw[e1]at u1;have hrow1:GOwn 52 3 w.heap.size w1 (.slice (some ⟨lb,0,none⟩) n n) xs:=GOwn.upd R.row u1 (fun g hg f=>hlb g f (by simpa[Value.ownBlock]using hg.symm));have hput:=GOwn.put hrow1 R.len.symm k (by rw[R.len];exact hkn) (cellsM (el h 0)) (cellsM_ok _);obtain⟨g,cap,hv,_,_,_,hc⟩:=hrow1.cell (by rw[R.len];omega);simp only[Value.slice.injEq,Option.some.injEq,Addr.mk.injEq,and_true]at hv;obtain⟨rfl,_,_⟩:=hv;obtain⟨x,hxk⟩:∃x,xs[k]?=some x:=⟨_,List.getElem?_eq_getElem (by rw[R.len];exact hkn)⟩;have hck:=(R.row.1 x (List.mem_of_getElem? hxk)).1;obtain⟨y0,y1,y2,rfl⟩:∃a b c,x=[a,b,c]:=by
  match x,hck with
  |[a,b,c],_=>exact⟨a,b,c,rfl⟩
 have hf:∀j,w1.frozen? ⟨lb,j,none⟩=false:=fun j=>by
  have:=hrow1.2;rw[R.len]at this;exact this.frozenAt j
 obtain⟨ini,hini⟩:=R.kp.worst (by have:=R.kp.same_len;rw[List.length_take]at this;omega);have hlen:(out.take (k+1)).length=k+1:=by rw[List.length_take];omega
 have hil:ini.length=k:=by rw[hini]at hlen;simpa using hlen
 have htk:out.take k=ini:=by
  have:(out.take (k+1)).take k=ini:=by rw[hini];exact List.take_left' hil
  rw[List.take_take,Nat.min_eq_left (by omega)]at this;exact this
 have hel:out[k]?=some (el h 0):=by
  have:(out.take (k+1))[k]?=some (el h 0):=by rw[hini,List.getElem?_append_right (by omega),hil];simp
  rwa [List.getElem?_take,if_pos (by omega)]at this
 have hupd:Upd (fun j=>j=lb) w1 (w1.setCells lb (k*3) (cellsM (el h 0))):=Upd.setCells (F:=fun j=>j=lb) rfl _ _ (Upd.refl _ _);have hu2:Upd (KF p v) w w1:=R.up.trans u1 (fun _ _ f=>f);refine⟨_,zC9 (hc k 0 _ _ hxk rfl) (hc k 1 _ _ hxk rfl) (hc k 2 _ _ hxk rfl) (hf _) (hf _) (hf _),⟨K1.upd hupd (fun j hj=>hlb j (e2▸hj)),hx1.trans R.own,?_,hput,by rw[List.length_set];exact R.len,?_,?_,R.lbg,R.hlt⟩⟩
 · rw[htk]
   have:=R.kp;rw[hini]at this;exact this.less hh1 hp1
 · have hd:xs.drop (k+1)=(out.drop (k+1)).map cellsM:=R.dn
   (have hk1:k<(xs.set k (cellsM (el h 0))).length:=by rw[List.length_set,R.len];exact hkn);(have hk2:k<out.length:=by omega);rw[List.drop_eq_getElem_cons hk1,List.drop_eq_getElem_cons hk2,List.getElem_set_self,List.drop_set_of_lt (by omega),hd,List.map_cons];(have:out[k]=el h 0:=by rw[List.getElem?_eq_getElem hk2]at hel;exact Option.some.inj hel);rw[this]
 · exact⟨hupd.os.trans hu2.os,hupd.tape.trans hu2.tape,hupd.output.trans hu2.output,Nat.le_trans hu2.size hupd.size,fun j hj hfj=>(hupd.block j (Nat.lt_of_lt_of_le hj hu2.size) (by have:=R.lbg;show ¬j=lb;omega)).trans (hu2.block j hj hfj)⟩
attribute [local go_sem ↓] zB6 zBt
theorem Take_any(B:Nat)(w:World)(p:Nat)(room:Int)(v:Value)(h out:List Mt)(K:KAt B w p room v h)(KP:Kp room.toNat out h)(hr:room≤64):
 Calls Tryz.prog 71 #[.pointer (some ⟨p,0,none⟩)] w fun e w'=>∃vl,e = .returned vl∧GOwn 52 3 w.heap.size w' vl (out.map cellsM)∧Upd (KF p v) w w'∧∃v',KAt B w' p room v' []∧v'.ownBlock=v.ownBlock:=by
 have hlo:=KP.same_len;have hlen:=KP.len;have HL:Hid (Calls Tryz.prog 103 #[.pointer (some ⟨p,0,none⟩)] w fun e w'=>e = .returned (.int .i64 h.length)∧w'=w):=zL8 B w p room v h K;obtain⟨n,hn⟩:∃n,h.length=n:=⟨_,rfl⟩;rw[hn]at HL hlo;have HO:Hid (out.length=n):=hlo.symm;obtain⟨z,hz,hzs⟩:=rtyM.inf;obtain⟨i0,hi,hz0,hz1,hz2⟩:=info_parts hz;have hzz:z = .agg #[.string .empty,.int .i64 0,.int .i64 0]:=by
  have h1:(Tryz.prog.info? 52).map (fun i=>i.zero)=some (some (.agg #[.string .empty,.int .i64 0,.int .i64 0])):=by kernel_rfl
  rw[hi]at h1;simp only[Option.map_some,Option.some.injEq]at h1;rw[hz0]at h1;exact Option.some.inj h1
 have hn64:n≤64:=by omega
 obtain⟨W0,hmk,hown,hgr⟩:=run_make_full (P:=Tryz.prog) w w.heap.size 46 52 i0 z 3 rtyM.und hi hz0 hz1 .i64 .i64 n (by rw[hz2];omega) (by simp only[maxLen];omega) (Nat.le_refl _);have hb0:Below w.heap.size w W0:=(Below.refl _ w).grown hgr (Nat.le_refl _) (fun k e=>by cases e);obtain⟨lb,hlb⟩:∃lb,w.heap.size=lb:=⟨_,rfl⟩;have HR0:Hid (TkR B w p room v out lb n n W0 h v (List.replicate n (cellsM (.empty,0,0)))):=by
  have hlt:∀k,KF p v k→k<w.heap.size:=fun k hk=>by
   rcases hk with rfl|hk
   · exact K.lt
   · exact K.row.lt hk
  refine⟨K.below hb0,rfl,?_,⟨fun x hx=>?_,?_⟩,by simp,?_,zAm hb0,by omega,hlt⟩
  · rw[List.take_of_length_le (by omega)];exact KP
  · rw[List.eq_of_mem_replicate hx];exact cellsM_ok _
  · have e:=zV6 (.string .empty) (.int .i64 0) (.int .i64 0) n
    rw[hzz,hlb]at hown;rw[List.length_replicate];have e2:(Value.agg #[.string .empty,.int .i64 0,.int .i64 0]).cells=#[.string .empty,.int .i64 0,.int .i64 0]:=rfl;rw[e2,e]at hown;rw[hlb];exact hown
  · rw[List.drop_of_length_le (by simp),List.drop_of_length_le (by omega)];rfl
 rw[hlb]at hmk;have HN:Hid (h.length=n):=hn;clear K KP hlo hlen hn hz hzs hi hz0 hz1 hz2 hzz hown hgr hb0 hr;go_enter Tryz.func71,Tryz.ntmps71;go_wp2_with (go_at_call 103;refine HL.out.mono ?_;rintro e w2 ⟨rfl,hw2⟩;replace hw2:=hw2.symm;subst hw2);clear hmk
 go_loopg [4] n (fun g s4 wr=>∃(k:Nat) (h':List Mt) (vk:Value) (xs:List (List Value)),s4 = .int .i64 ((k:Int)-1)∧k≤n∧k≤g∧Hid (TkR B w p room v out lb n k wr h' vk xs))
 case atStart=>exact⟨n,h,v,_,by first|rfl|go_num,Nat.le_refl _,Nat.le_refl _,HR0⟩
 case round=>
  obtain⟨k,h',vk,xs,hs4,hkn,hkg,HR⟩:=hrel;cases k with
  |zero=>
   (have e:u4 = .int .i64 (-1):=by rw[hs4];rfl);subst e;clear hs4;go_wp2;go_ret;(have hx:xs=out.map cellsM:=by have:=HR.out.dn;rwa [List.drop_zero,List.drop_zero]at this);have hh:h'=[]:=List.length_eq_zero_iff.1 (by have:=HR.out.kp.same_len;rw[List.take_zero]at this;simpa using this);have hrow:=HR.out.row;have hK:=HR.out.K;rw[hx]at hrow;rw[hh]at hK;exact⟨_,rfl,hrow,HR.out.up,vk,hK,HR.out.own⟩
  |succ j=>
   (have e:u4 = .int .i64 (j:Int):=by rw[hs4];congr 1;omega);subst e;clear hs4;(have hjn:(j:Int)<(n:Int):=by omega);(have hl':h'.length=j+1:=by have:=HR.out.kp.same_len;rw[List.length_take]at this;have:=HO.out;omega);have HTW:Hid (Calls Tryz.prog 106 #[.pointer (some ⟨p,0,none⟩)] wr fun e w'=>e = .returned (valM (el h' 0))∧∃v' h2,KAt B w' p room v' h2∧Upd (KF p vk) wr w'∧v'.ownBlock=vk.ownBlock∧(el h' 0::h2).Perm h'∧Hp h2.length h2∧h2.length=j):=zFk B wr p room vk h' j HR.out.K HR.out.kp.hp hl' (by omega);clear hl';go_wp2_with (go_at_call 106;refine HTW.out.mono ?_;rintro e w1 ⟨rfl,v1,h1,hK1,hu1,hx1,hp1,hh1,hl1⟩;obtain⟨W,hst,hR⟩:=HR.out.put HO.out (by omega) hK1 hu1 hx1 hp1 hh1;have HR1:Hid (TkR B w p room v out lb n j W h1 v1 (xs.set j (cellsM (el h' 0)))):=hR;clear hK1 hu1 hx1 hp1 hh1 hl1 hR);go_roundg j;(case measure=>omega);case rel=>exact⟨j,h1,v1,_,by first|rfl|go_num,by omega,Nat.le_refl _,HR1⟩
end Bt
end
section
open Go.RowKit Go.Lib Nums Pm
namespace Bt
def MRow(w:World)(v:Value)(l:List Mt):Prop:=GRow w.heap.size 3 w v (l.map cellsM)
theorem MRow.below{w w':World}{v:Value}{l:List Mt}(h:MRow w v l)(hb:Below w.heap.size w w'):MRow w' v l:=(GRow.below h hb).mono hb.size
theorem MRow.form{w:World}{v:Value}{l:List Mt}(h:MRow w v l):∃ad cap,v = .slice ad l.length cap:=by
 obtain⟨ad,cap,e⟩:=GRow.shape h;exact⟨ad,cap,by rw[e,List.length_map]⟩
theorem MRow.at{w:World}{ad:Option Addr}{n cap:Nat}{l:List Mt}(h:MRow w (.slice ad n cap) l)(h0:0<l.length):∃g off,ad=some ⟨g,off,none⟩∧g<w.heap.size∧∀k x,l[k]?=some x→w.cell? ⟨g,off+k*3,none⟩=some (.string x.1)∧w.cell? ⟨g,off+k*3+1,none⟩=some (.int .i64 x.2.1)∧w.cell? ⟨g,off+k*3+2,none⟩=some (.int .i64 x.2.2):=by
 obtain⟨ad',cap',hv,hc⟩:=h.ex;simp only[Value.slice.injEq]at hv;obtain⟨g,off,rfl,hg,hx⟩:=hc (by rw[List.length_map];omega);refine⟨g,off,hv.1,hg,fun k x hk=>?_⟩;have e:(l.map cellsM)[k]?=some (cellsM x):=by rw[List.getElem?_map,hk];rfl
 exact⟨hx k 0 _ _ e rfl,hx k 1 _ _ e rfl,hx k 2 _ _ e rfl⟩
theorem MRow.load{w:World}{ad:Option Addr}{n cap:Nat}{l:List Mt}(h:MRow w (.slice ad n cap) l){k:Nat}{x:Mt}(hk:l[k]?=some x):∃g off,ad=some ⟨g,off,none⟩∧g<w.heap.size∧zFx Tryz.prog (.pointer (some ⟨g,off+k*3,none⟩)) w = .ok (valM x) w:=by
 obtain⟨g,off,rfl,hg,hc⟩:=h.at (by have:=(List.getElem?_eq_some_iff.1 hk).1;omega);obtain⟨c0,c1,c2⟩:=hc k x hk;exact⟨g,off,rfl,hg,zDr c0 c1 c2⟩
def kk(k:Int):Nat:=(min k 64).toNat
theorem zTv(k:Nat)(l:List Mt)(j:Nat)(x:Mt)(hx:l[j]?=some x):bestF k (l.take (j+1))=stp k (bestF k (l.take j)) x:=by
 obtain⟨hj,e⟩:=List.getElem?_eq_some_iff.1 hx;rw[List.take_succ_eq_append_getElem hj,zTw,e]
structure SeR(w:World)(p:Nat)(k:Int)(l:List Mt)(j:Nat)(wr:World)(h:List Mt)(vk:Value):Prop where
 K:KAt w.heap.size wr p (min k 64) vk h
 kp:Kp (kk k) (bestF (kk k) (l.take j)) h
 bel:Below w.heap.size w wr
theorem SeR.step{w:World}{p:Nat}{k:Int}{l:List Mt}{j:Nat}{wr W w':World}{h:List Mt}{vk:Value}{x:Mt}(R:SeR w p k l j wr h vk)(hb:Below wr.heap.size wr W)(hx:l[j]?=some x)(A:AddSays w.heap.size W w' p (min k 64) vk (bestF (kk k) (l.take j)) x):∃h' v',SeR w p k l (j+1) w' h' v':=by
 obtain⟨v',h',hK,hkp,_⟩:=A.ex;refine⟨h',v',hK,?_,?_⟩
 · rw[zTv _ _ _ _ hx];exact hkp
 · have hbW:Below w.heap.size w W:=R.bel.trans (hb.mono R.bel.size)
   exact hbW.trans (A.up.below (fun q hq=>KF.low R.K hq) hbW.size)
theorem zVt(w2:World)(x:Mt):
 ∃W3,zDa Tryz.prog (.pointer (some ⟨w2.heap.size,0,none⟩)) (valM x) (w2.alloc (.cells #[.string ⟨#[]⟩,.int .i64 0,.int .i64 0] 52)) = .ok () W3∧Below w2.heap.size w2 W3∧zFx Tryz.prog (.pointer (some ⟨w2.heap.size,0,none⟩)) W3 = .ok (valM x) W3∧W3.heap[w2.heap.size]?=some (.cells (cellsM x).toArray 52):=by
 obtain⟨V3,hV3⟩:∃V3,w2.alloc (.cells #[.string ⟨#[]⟩,.int .i64 0,.int .i64 0] 52)=V3:=⟨_,rfl⟩;have hb3:Below w2.heap.size w2 V3:=by rw[←hV3];exact(Below.refl _ w2).alloc (Nat.le_refl _) _
 have hn3:V3.heap[w2.heap.size]?=some (.cells #[.string ⟨#[]⟩,.int .i64 0,.int .i64 0] 52):=by rw[←hV3];exact zBu _ _
 obtain⟨W3,hst,hu3,hc3⟩:=zD7 V3 w2.heap.size _ _ _ hn3 x;rw[hV3];exact⟨W3,hst,hb3.trans (hu3.below (B:=w2.heap.size) (fun k e=>by have:k=w2.heap.size:=e;omega) hb3.size),zK6 hc3,hc3⟩
attribute [local go_sem ↓] zB6 zBt
theorem Select_any(w:World)(v:Value)(l:List Mt)(k:Int)(h:MRow w v l)(hl:l.length<4611686018427387904):
 Calls Tryz.prog 34 #[v,.int .i64 k] w fun e w'=>∃vl,e = .returned vl∧GOwn 52 3 w.heap.size w' vl ((bestF (kk k) l).map cellsM)∧Below w.heap.size w w':=by
 obtain⟨ad,cap,rfl⟩:=h.form;obtain⟨n,hn⟩:∃n,l.length=n:=⟨_,rfl⟩;rw[hn]at h hl ⊢;have HROW:Hid (MRow w (.slice ad n cap) l):=h;have HN:Hid (l.length=n):=hn;have HNEW:Hid (Calls Tryz.prog 69 #[.int .i64 k] w fun e w'=>e = .returned (.pointer (some ⟨w.heap.size,0,none⟩))∧KAt w.heap.size w' w.heap.size (min k 64) (.slice none 0 0) []∧Below w.heap.size w w'):=New_any w k;have hmf:∀(fn:Fn) (first cap:Array Value) (w:World),(Instr.makeFunc fn first cap).run Tryz.prog w = .ok (.func fn first cap) w:=fun _ _ _ _=>rfl
 obtain⟨p,hp⟩:∃p,w.heap.size=p:=⟨_,rfl⟩;rw[hp]at HNEW;have HP:Hid (w.heap.size=p):=hp;clear h hn hp;go_enter Tryz.func34,Tryz.ntmps34;go_wp2_with (go_at_call 69;refine HNEW.out.mono ?_;rintro e w1 ⟨rfl,hK1,hb1⟩;have HR0:Hid (∃h vk,SeR w p k l 0 w1 h vk):=⟨[],.slice none 0 0,by rw[HP.out];exact hK1,by rw[List.take_zero];exact Kp.nil _,by rw[HP.out];exact hb1⟩;clear hK1 hb1)
 go_loopg [15] n (fun g s15 wr=>∃(j:Nat),s15 = .int .i64 j∧j≤n∧n-j≤g∧Hid (∃h vk,SeR w p k l j wr h vk))
 case atStart=>exact⟨0,rfl,Nat.zero_le _,by omega,HR0⟩
 case round=>
  obtain⟨j,rfl,hjn,hg,HR⟩:=hrel;by_cases hlt:j<n
  · have hltz:(j:Int)<(n:Int):=by omega
    obtain⟨x,hx⟩:∃x,l[j]?=some x:=⟨l[j]'(by have:=HN.out;omega),List.getElem?_eq_getElem _⟩;obtain⟨h',vk,hR⟩:=HR.out;have HS:Hid (SeR w p k l j wr h' vk):=hR;obtain⟨g0,off,rfl,hg0,hld⟩:=(HROW.out.below hR.bel).load hx;obtain⟨W3,hst,hbW,hld2,_⟩:=zVt wr x;have HAD:Hid (Calls Tryz.prog 70 #[.pointer (some ⟨p,0,none⟩),valM x] W3 fun e w'=>e = .returned (.bool (zI1 (kk k) (bestF (kk k) (l.take j)) x))∧AddSays w.heap.size W3 w' p (min k 64) vk (bestF (kk k) (l.take j)) x):=Add_any w.heap.size W3 p (min k 64) vk h' _ x (hR.K.below hbW) hR.kp (by omega);have HX:Hid (l[j]?=some x):=hx;have HBW:Hid (Below wr.heap.size wr W3):=hbW;clear hx hR hg0 hbW HR;go_wp2_with (go_at_call 70;refine HAD.out.mono ?_;rintro e w4 ⟨rfl,hA⟩;have HR4:Hid (∃h vk,SeR w p k l (j+1) w4 h vk):=HS.out.step HBW.out HX.out hA;clear hA);go_roundg (n-(j+1));(case measure=>omega);case rel=>exact⟨j+1,by go_num,by omega,Nat.le_refl _,HR4⟩
  · have hkn:j=n:=by omega
    subst hkn;obtain⟨h',vk,hR⟩:=HR.out;have HTK:Hid (Calls Tryz.prog 71 #[.pointer (some ⟨p,0,none⟩)] wr fun e w'=>∃vl,e = .returned vl∧GOwn 52 3 wr.heap.size w' vl ((bestF (kk k) (l.take j)).map cellsM)∧Upd (KF p vk) wr w'∧∃v',KAt w.heap.size w' p (min k 64) v' []∧v'.ownBlock=vk.ownBlock):=Take_any w.heap.size wr p (min k 64) vk h' _ hR.K hR.kp (by omega);have HE:Hid (l.take j=l):=List.take_of_length_le (by have:=HN.out;omega);have HS:Hid (SeR w p k l j wr h' vk):=hR;clear hR HR;go_wp2_with (go_at_call 71;refine HTK.out.mono ?_;rintro e w4 ⟨vl,rfl,hgo,hu4,_⟩);go_ret;refine⟨vl,rfl,?_,?_⟩
    · have:=hgo.mono (B':=w.heap.size) HS.out.bel.size
      rw[HE.out]at this;exact this
    · exact HS.out.bel.trans (hu4.below (fun q hq=>KF.low HS.out.K hq) HS.out.bel.size)
end Bt
end
section
open Go.RowKit Go.Lib Nums Pm
namespace Bt
end Bt
end
