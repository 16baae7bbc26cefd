/- Texts that were written apart, joined. -/
import Derived.Test.YthecngkdmnadoaaGreatG43
import Derived.Test.YthecngkdmnadoaaGreatG44
import Derived.Test.YthecngkdmnadoaaGreatG20
import Derived.Handy
import Derived.Test.YthecngkdmnadoaaGreatG03
import Derived.Sort.Row
import Derived.Sort.AssemblyPlain
import Derived.CellFam
import Derived.BigGuard
import Derived.BigCall
import Derived.BigQuiet
import Derived.Deep.QuietTactic
import Derived.RegionTactic
import Derived.BigRegion
namespace Go.Proofs.YthecngkdmnadoaaGreat
open Go.RowKit
set_option maxRecDepth 100000
def CutR(W0:World)(N p k rb b:Nat)(at_:Int)(j:Nat)(wv:Value)(wr:World):Prop:=∃v fp s g M lv,CutW W0 (N+k+j*301000) b p rb v fp s g M wv lv wr∧CutP 1 (k+j) at_ g M
set_option maxHeartbeats 4000000 in
theorem lawcut_any(W0:World)(N p k:Nat)(d:DS)(fp:List Nat)(at_:Int)(sv:Value)(L:List Op5)(w:World)(hd:DiskAt N w p d fp)(hb:Below W0.heap.size W0 w)(hf:∀k∈fp,W0.heap.size≤k)(hr:Rdy 1 k d)(hS:Script5 W0 sv L)(hk:k+L.length≤300000)(hN:N+L.length*301000≤120000000000)(hx:∀o∈L,o.xs.length≤1048576)(h1 : -9223372036854775808≤at_)(h2:at_≤9223372036854775807):
 Calls Tryz.prog 21 #[.pointer (some ⟨p,0,none⟩),.int .i64 at_,sv] w (CutSays W0 p (k+L.length) at_ (N+k+L.length*301000)):=by
 obtain⟨g,hg,hcp,_⟩:=hr.cut;have HO:Hid (Calls Tryz.prog 12 #[.pointer (some ⟨p,0,none⟩),.int .u64 0,.int .u64 1] w fun e w'=>∃b v fp' s,e = .returned (.tuple #[.pointer (some ⟨b,0,none⟩),.int .i64 0])∧Since W0 (N+k) w' b p g v fp' s):=hr.since hd hb hf (by omega) hg;obtain⟨sa,sc,rfl,hsc,_,hcs⟩:=hS;have HCS:Hid _:=hcs;have HX:Hid (∀o∈L,o.xs.length≤1048576):=hx;have HP:Hid (CutP 1 k (-1) g [(g.first,g.L)]):=hcp;have hfl:=hcp.sm.fl;clear hd hb hf hg hcs hx hr hcp;go_enter Tryz.func21,Tryz.ntmps21;go_wp2_with fail;refine HO.out.mono ?_;rintro e w1 ⟨b,v1,fp1,s1,rfl,hs1⟩;have HS1:Hid (Since W0 (N+k) w1 b p g v1 fp1 s1):=hs1;clear hs1 HO;go_wp2_with fail;refine(first_since HS1.out _ rfl).mono ?_;rintro e w2 ⟨rfl,rfl⟩;go_wp2_with fail;refine(all5_any W0 (N+k) b p g v1 fp1 s1 w2 HS1.out (by omega) (fun x hx=>Nat.le_trans (HP.out.rec' x hx) (by omega))).mono ?_;rintro e w3 ⟨hb3,lv,rfl,hlv⟩;have HS3:Hid (Since W0 (N+k) w3 b p g v1 fp1 s1):=HS1.out.on hb3;have HL3:Hid (StrOwn w2.heap.size w3 lv g.L):=hlv;obtain⟨la,ln,lc,rfl⟩:∃(la:Option Addr) (ln lc:Nat),lv = .slice la ln lc:=by
  obtain⟨la,lc,e⟩:=hlv.shape;exact⟨la,_,lc,e⟩
 have hsz3:=hb3.size;clear hb3 hlv;go_wp2_with fail;have hbox:=CutW.start (B:=w2.heap.size) HS3.out HL3.out (fun k hk=>HS1.out.log.lt k hk);obtain⟨W,hW⟩:∃W,((w3.alloc (.cells #[.int .u64 (g.first:Int),.slice la ln lc] 33)).alloc (.cells #[.int .u64 (g.first:Int),.slice la ln lc] 33))=W:=⟨_,rfl⟩;rw[hW]at hbox ⊢;obtain⟨rb,hrb⟩:∃rb,w3.heap.size=rb:=⟨_,rfl⟩;rw[hrb]at hbox ⊢;refine(Arm_any (N+k) p g.d fp1 at_ W (by have:=hbox.log.log.disk;rwa [hbox.log.p]at this) h1 h2).mono ?_;rintro e w4 ⟨rfl,hd4,ho4⟩;have hcw:=hbox.arm hd4 ho4;have hpw:=HP.out.arm at_;generalize ({ g with d:=if g.d.dead then g.d else { g.d with armed:=decide (0≤at_),ahead:=at_ } }:LG)=g4 at *;have HI:Hid (CutR W0 N p k rb b at_ 0 (.slice (some ⟨rb+1,0,none⟩) 1 1) w4):=⟨v1,fp1,s1,g4,_,_,hcw.more (by omega),hpw⟩;clear hbox hd4 ho4 HS1 HS3 HL3 hrb hW hsz3 hfl hcw hpw HP;go_wp2_with fail
 go_loopw [11,36] (fun u v wr=>∃(j:Nat),v = .int .i64 j∧j≤L.length∧CutR W0 N p k rb b at_ j u wr) (fun _ v _=>L.length-(intOf v).toNat)
 case atStart=>exact⟨0,rfl,Nat.zero_le _,HI.out⟩
 case round=>
  clear HI;obtain⟨j,rfl,hj,v,fp2,s,g5,M,lv,hcw,hcp⟩:=hrel;by_cases hlt:j<L.length
  · obtain⟨bb,off,rfl,hbw,hel⟩:=HCS.out (by omega)
    obtain⟨hfit,bv,c0,c1,c2,hrow⟩:=hel j L[j] (List.getElem?_eq_getElem hlt);have hxl:=HX.out L[j] (List.getElem_mem hlt);generalize L[j]=o at *;obtain⟨ao2,cap2,rfl,hcap2⟩:=hrow.shape;have hbl:=hcw.log.below;have HRb:Hid (rb<wr.heap.size∧wr.heap.size∉u11.ownBlock.toList):=⟨hcw.rblt,fun hm=>Nat.lt_irrefl _ (hcw.was.lt _ hm).1⟩;(have HFl:Hid (∀k∈logF b v fp2,k<wr.heap.size):=fun k hk=>hcw.log.log.lt k hk);have HB:Hid (∀x∈o.xs,x<256):=hfit.2.2.2.2.2;have hszr:=hbl.size;have HRow:Hid (Row W0.heap.size W0 (.slice ao2 o.xs.length cap2) o.xs∧o.xs.length≤1048576):=⟨hrow,hxl⟩;have d0:=(hbl.cell (p:=⟨bb,off+j*3,none⟩) hbw).trans c0;have d1:=(hbl.cell (p:=⟨bb,off+j*3+1,none⟩) hbw).trans c1;have d2:=(hbl.cell (p:=⟨bb,off+j*3+2,none⟩) hbw).trans c2;(have hlt':(j:Int)<(L.length:Int):=by omega);obtain⟨la2,ln2,lc2,rfl⟩:∃(la2:Option Addr) (ln2 lc2:Nat),lv = .slice la2 ln2 lc2:=by
     obtain⟨ao,cap,e,_⟩:=hcw.row.1;exact⟨ao,_,cap,e⟩
    have HC:Hid (CutW W0 (N+k+j*301000) b p rb v fp2 s g5 M u11 (.slice la2 ln2 lc2) wr):=hcw;have HP:Hid (CutP 1 (k+j) at_ g5 M):=hcp;clear hel c0 c1 c2 hfit hrow hxl hcw hcp hbl;go_wp2_with fail;obtain⟨W2,hW2⟩:∃W2,wr.alloc (.cells #[.int .i64 o.kind,.int .i64 o.n,.slice ao2 o.xs.length cap2] 36)=W2:=⟨_,rfl⟩;(have hBW:Below wr.heap.size wr W2:=by rw[←hW2];exact(Below.refl _ wr).alloc (Nat.le_refl _) _);(have hws:wr.heap.size<W2.heap.size:=by rw[←hW2];simp);(have q0:W2.cell? ⟨wr.heap.size,0,none⟩=some (.int .i64 o.kind):=by rw[←hW2];simp);(have q1:W2.cell? ⟨wr.heap.size,1,none⟩=some (.int .i64 o.n):=by rw[←hW2];simp);(have q2:W2.cell? ⟨wr.heap.size,2,none⟩=some (.slice ao2 o.xs.length cap2):=by rw[←hW2];simp);rw[hW2];clear hW2 d0 d1 d2;refine(near_any o.kind o.n (.slice ao2 o.xs.length cap2) W2).mono ?_;rintro e w5 ⟨rfl,hb5⟩;have hB5:Below wr.heap.size wr w5:=hBW.trans (hb5.mono hBW.size);have HC5:Hid (CutW W0 (N+k+j*301000) b p rb v fp2 s g5 M u11 (.slice la2 ln2 lc2) w5):=HC.out.below hB5;have g0:=(hb5.cell (p:=⟨wr.heap.size,0,none⟩) hws).trans q0;have g1:=(hb5.cell (p:=⟨wr.heap.size,1,none⟩) hws).trans q1;have g2:=(hb5.cell (p:=⟨wr.heap.size,2,none⟩) hws).trans q2;have hlt0:wr.heap.size<w5.heap.size:=Nat.lt_of_lt_of_le hws hb5.size;clear q0 q1 q2 hb5 hB5 hBW hws HC;cases hnz:nearZ o.n with
    |false=>
     clear g0 g1 g2;go_wp2_with fail
     go_roundw
     (case rel=>exact⟨j+1,by go_num,by omega,v,fp2,s,g5,M,_,HC5.out.more (by omega),HP.out.more (by omega)⟩);case measure=>simp[intOf];omega
    |true=>
     have HNr:Hid (-1000000<o.n∧o.n<1000000):=(of_decide_eq_true hnz : -1000000<o.n∧o.n<1000000);obtain⟨e0,e1,_⟩:=HC5.out.cells;have HR5:Hid (Row w5.heap.size w5 (.slice ao2 o.xs.length cap2) o.xs):=(HRow.out.1.below HC5.out.log.below).mono HC5.out.log.below.size;have hgl:=HP.out.sm.fl;go_wp2_with fail;refine(Do_any w5 (g5.first,g5.L) o.kind o.n o.xs (.slice la2 ln2 lc2) (.slice ao2 o.xs.length cap2) HC5.out.row.1 HR5.out (by show g5.first+g5.L.length≤_;omega) (by show g5.L.length<_;omega) HNr.out.1 HNr.out.2 (by have:=HRow.out.2;omega)).mono ?_;obtain⟨r,hr⟩:∃r,doR (g5.first,g5.L) o.kind o.n o.xs=r:=⟨_,rfl⟩;have hstep:=HP.out.step (kd:=o.kind) (z:=o.n) (x:=o.xs) (by omega) HNr.out.1 HNr.out.2 HB.out;rw[hr]at hstep ⊢;rintro e w6 ⟨hb6,lv2,rfl,hs6,hf6⟩;have HC6:Hid (CutW W0 (N+k+j*301000) b p rb v fp2 s g5 M u11 (.slice la2 ln2 lc2) w6):=HC5.out.below hb6;have HL6:Hid (StrsX ((rb::logF b v fp2)++u11.ownBlock.toList) w6 lv2 r.2.2):=HC5.out.row.from' hs6 hf6 HC5.out.Flt;obtain⟨la3,ln3,lc3,rfl⟩:∃(la3:Option Addr) (ln3 lc3:Nat),lv2 = .slice la3 ln3 lc3:=by
      obtain⟨ao,cap,e,_⟩:=hs6;exact⟨ao,_,cap,e⟩
     have f0:=(hb6.cell (p:=⟨wr.heap.size,0,none⟩) hlt0).trans g0;have f1:=(hb6.cell (p:=⟨wr.heap.size,1,none⟩) hlt0).trans g1;have f2:=(hb6.cell (p:=⟨wr.heap.size,2,none⟩) hlt0).trans g2;have hlt6:wr.heap.size<w6.heap.size:=Nat.lt_of_lt_of_le hlt0 hb6.size;clear e0 e1 g0 g1 g2 HR5 hgl hs6 hf6 hb6 hlt0;go_wp2_with fail;obtain⟨W3,hW3⟩:∃W3,w6.alloc (.cells #[.int .u64 (r.2.1:Int),.slice la3 ln3 lc3] 33)=W3:=⟨_,rfl⟩;(have hB3:Below w6.heap.size w6 W3:=by rw[←hW3];exact(Below.refl _ w6).alloc (Nat.le_refl _) _);(have hws3:w6.heap.size<W3.heap.size:=by rw[←hW3];simp);(have q0:W3.cell? ⟨w6.heap.size,0,none⟩=some (.int .u64 (r.2.1:Int)):=by rw[←hW3];simp);(have q1:W3.cell? ⟨w6.heap.size,1,none⟩=some (.slice la3 ln3 lc3):=by rw[←hW3];simp);have f0':=(hB3.cell (p:=⟨wr.heap.size,0,none⟩) hlt6).trans f0;rw[hW3];have HC3:Hid (CutW W0 (N+k+j*301000) b p rb v fp2 s g5 M u11 (.slice la2 ln2 lc2) W3):=HC6.out.below hB3;have HL3:Hid (StrsX ((rb::logF b v fp2)++u11.ownBlock.toList) W3 (.slice la3 ln3 lc3) r.2.2):=HL6.out.below hB3;(have hsn:wr.heap.size∉logF b v fp2:=fun hm=>Nat.lt_irrefl _ (HFl.out _ hm));(have hsn6:w6.heap.size∉logF b v fp2:=fun hm=>Nat.lt_irrefl _ (Nat.lt_trans (HFl.out _ hm) hlt6));clear hW3 hB3 f0 f1 f2 HC6 HL6 HC5;refine(does5_X W0 _ b p (k+j) o.kind o.n o.xs (.slice ao2 o.xs.length cap2) g5 v fp2 s W3 HC3.out.log HRow.out.1 HP.out.sm (by omega) (by omega) (by have:=HRow.out.2;omega)).mono ?_;rintro e w7 ⟨rfl,v7,fp7,s7,hs7,ho7,hk7⟩;have HX7:Hid (CutX W0 (N+k+(j+1)*301000) b p rb v7 fp7 s7 (doesG g5 o.kind o.n o.xs).2 r.2.1 r.2.2 M u11 (.slice la3 ln3 lc3) w7):=HC3.out.called HL3.out (hs7.more (by omega)) ho7 hk7;have hsz7:=ho7.size;(have h0:w7.cell? ⟨w6.heap.size,0,none⟩=some (.int .u64 (r.2.1:Int)):=by rw[←q0];simp[World.cell?,ho7.block _ hws3 hsn6]);(have h1':w7.cell? ⟨w6.heap.size,1,none⟩=some (.slice la3 ln3 lc3):=by rw[←q1];simp[World.cell?,ho7.block _ hws3 hsn6]);(have hk0:w7.cell? ⟨wr.heap.size,0,none⟩=some (.int .i64 o.kind):=by rw[←f0'];simp[World.cell?,ho7.block _ (Nat.lt_trans hlt6 hws3) hsn]);have hl6:w6.heap.size<w7.heap.size:=Nat.lt_of_lt_of_le hws3 hsz7;generalize doesG g5 o.kind o.n o.xs=dg at *;clear q0 q1 f0' hs7 ho7 hk7 HC3 HL3 hsn hsn6 hws3;go_wp2_with fail;refine(Dead_any _ p dg.2.d fp7 w7 (by have:=HX7.out.log.log.disk;rwa [HX7.out.log.p]at this)).mono ?_;rintro e w8 ⟨rfl,rfl⟩;cases hdd:dg.2.d.dead with
     |true=>
      have HD:Hid (0≤at_∧CutD 1 (k+j+1) (M++[r.2]) dg.2.d∧dg.2.d.dead=true):=by
       rcases hstep with⟨_,q2,q3⟩|⟨q1,_⟩
       · exact⟨q2,q3,hdd⟩
       · rw[hdd]at q1;cases q1
      (have HMl:Hid (M.length<1099511627776):=by have:=HP.out.many;show _<_;omega);have HMx:Hid (MemX ((rb::logF b v7 fp7)++u11.ownBlock.toList) w8 (r.2.1,.slice la3 ln3 lc3) r.2):=⟨rfl,HX7.out.row⟩;clear hstep hdd;go_wp2_with (at_builtin;refine append_w rfl _ _ (rb::logF b v7 fp7) W0.heap.size _ w8.heap.size u11 M (r.2.1,.slice la3 ln3 lc3) r.2 rfl rfl HX7.out.was HX7.out.clean HMx.out HX7.out.log.below.size HX7.out.Flt HMl.out rfl rfl ?_;intro v9 w9 hw9 hc9 ho9 hk9;have H9:Hid (CutSays W0 p (k+j+1) at_ (N+k+(j+1)*301000) (.returned (.tuple #[v9,.bool true])) w9):=HX7.out.died hw9 ho9 HD.out.2.2 HD.out.1 HD.out.2.1;clear hw9 hc9 ho9 hk9);go_ret2;exact H9.out.more (by omega) (by omega)
     |false=>
      have HD:Hid (dg.1=r.1∧dg.2.first=r.2.1∧dg.2.L=r.2.2∧CutP 1 (k+j+1) at_ dg.2 (if o.kind=1 then [r.2]else M++[r.2])):=by
       rcases hstep with⟨q1,_⟩|⟨_,q2⟩
       · rw[hdd]at q1;cases q1
       · exact q2
      have HW:Hid _:=HX7.out.stored HD.out.2.1 HD.out.2.2.1;obtain⟨z0,z1,y0,y1,yf⟩:=HX7.out.cells;have yf0:=yf 0;have yf1:=yf 1;(have HMl:Hid (M.length<1099511627776):=by have:=HP.out.many;show _<_;omega);have HMx:Hid (MemX ((rb::logF b v7 fp7)++u11.ownBlock.toList) ((w8.setCell ⟨rb,0,none⟩ (.int .u64 (r.2.1:Int))).setCell ⟨rb,1,none⟩ (.slice la3 ln3 lc3)) (r.2.1,.slice la3 ln3 lc3) r.2):=⟨rfl,by have:=HW.out.row;rw[HD.out.2.2.1]at this;exact this⟩;have HK0:Hid (((w8.setCell ⟨rb,0,none⟩ (.int .u64 (r.2.1:Int))).setCell ⟨rb,1,none⟩ (.slice la3 ln3 lc3)).cell? ⟨wr.heap.size,0,none⟩=some (.int .i64 o.kind)):=by
       have hne:=HRb.out.1;have ho:Only [rb] w8 ((w8.setCell ⟨rb,0,none⟩ (.int .u64 (r.2.1:Int))).setCell ⟨rb,1,none⟩ (.slice la3 ln3 lc3)):=((Only.refl [rb] w8).setCell (by simp) _ _).setCell (by simp) _ _;have hb:=ho.block wr.heap.size (Nat.lt_trans hlt6 hl6) (fun hm=>by rw[List.mem_singleton.1 hm]at hne;omega);show _=_;rw[←hk0];unfold World.cell?;rw[hb]
      have hwl:wr.heap.size<w8.heap.size:=Nat.lt_trans hlt6 hl6;clear hstep hdd yf;rw[HD.out.1];by_cases hk1:o.kind=1
      · have e1:(o.kind==1)=true:=by simpa using hk1
        have HD2:Hid (CutP 1 (k+j+1) at_ dg.2 [(dg.2.first,dg.2.L)]):=by
         have:=HD.out.2.2.2;rw[if_pos hk1]at this;rw[HD.out.2.1,HD.out.2.2.1];exact this
        go_wp2_with (at_builtin;refine append_w rfl _ _ (rb::logF b v7 fp7) W0.heap.size _ _ u11 M (r.2.1,.slice la3 ln3 lc3) r.2 rfl rfl HW.out.was HW.out.clean HMx.out HW.out.log.below.size (fun k hk=>HW.out.Flt k (List.mem_append_left _ hk)) HMl.out rfl (by simp) ?_;intro v9 w9 hw9 hc9 ho9 hk9;have H9:Hid (CutW W0 (N+k+(j+1)*301000) b p rb v7 fp7 s7 dg.2 (M++[r.2]) v9 (.slice la3 ln3 lc3) w9):=HW.out.grown hw9 hc9 ho9 hk9;have k9:w9.cell? ⟨wr.heap.size,0,none⟩=some (.int .i64 o.kind):=(by rw[←HK0.out];simp[World.cell?,ho9.block wr.heap.size (by simp;omega) HRb.out.2]);clear hw9 hc9 ho9 hk9;obtain⟨m0,m1,_⟩:=H9.out.cells)
        go_roundw
        (case rel=>exact⟨j+1,by go_num,by omega,v7,fp7,s7,dg.2,_,_,CutW.one H9.out.log (H9.out.row.step (Only.refl _ _) (fun k hk => .inl (List.mem_append_left _ hk))) H9.out.box H9.out.rbl H9.out.rbw,HD2.out⟩);case measure=>simp[intOf];omega
      · have e1:(o.kind==1)=false:=by simpa using hk1
        (have HD2:Hid (CutP 1 (k+j+1) at_ dg.2 (M++[r.2])):=by have:=HD.out.2.2.2;rw[if_neg hk1]at this;exact this);go_wp2_with (at_builtin;refine append_w rfl _ _ (rb::logF b v7 fp7) W0.heap.size _ _ u11 M (r.2.1,.slice la3 ln3 lc3) r.2 rfl rfl HW.out.was HW.out.clean HMx.out HW.out.log.below.size (fun k hk=>HW.out.Flt k (List.mem_append_left _ hk)) HMl.out rfl (by simp) ?_;intro v9 w9 hw9 hc9 ho9 hk9;have H9:Hid (CutW W0 (N+k+(j+1)*301000) b p rb v7 fp7 s7 dg.2 (M++[r.2]) v9 (.slice la3 ln3 lc3) w9):=HW.out.grown hw9 hc9 ho9 hk9;have k9:w9.cell? ⟨wr.heap.size,0,none⟩=some (.int .i64 o.kind):=(by rw[←HK0.out];simp[World.cell?,ho9.block wr.heap.size (by simp;omega) HRb.out.2]);clear hw9 hc9 ho9 hk9)
        go_roundw
        (case rel=>exact⟨j+1,by go_num,by omega,v7,fp7,s7,dg.2,M++[r.2],_,H9.out,HD2.out⟩);case measure=>simp[intOf];omega
  · have hle:¬(j:Int)<(L.length:Int):=by omega
    have HS:Hid (CutSays W0 p (k+j) at_ (N+k+j*301000) (.returned (.tuple #[u11,.bool true])) wr):=hcw.says hcp;clear hcw hcp;go_wp2_with fail;go_ret2;exact HS.out.more (by omega) (Nat.add_le_add_left (Nat.mul_le_mul_right _ hj) _)
end Go.Proofs.YthecngkdmnadoaaGreat

namespace Go.Proofs.YthecngkdmnadoaaGreat
open Go.RowKit
set_option maxRecDepth 100000
theorem flat_wC:∀(xs:List (Nat×Value)) (i:Nat) (x:Nat×Value),xs[i]?=some x→(xs.map wC).flatten[i*2]?=some (.int .u64 (x.1:Int))∧(xs.map wC).flatten[i*2+1]?=some x.2
 |[],i,x,h=>by simp at h
 |y::r,0,x,h=>by
  have e:y=x:=by simpa using h
  subst e;exact⟨rfl,rfl⟩
 |y::r,i+1,x,h=>by
  have h':r[i]?=some x:=by simpa using h
  obtain⟨h1,h2⟩:=flat_wC r i x h';have e:((y::r).map wC).flatten=wC y++(r.map wC).flatten:=rfl;rw[e];have hl:(wC y).length=2:=rfl;rw[List.getElem?_append_right (by omega),List.getElem?_append_right (by omega),hl];exact⟨by rw[←h1];congr 1;omega,by rw[←h2];congr 1;omega⟩
theorem WasX.at{F:List Nat}{B:Nat}{w:World}{wv:Value}{M:List SR}(h:WasX F B w wv M){i:Nat}{r:SR}(hi:M[i]?=some r):
 ∃g cap lv,wv = .slice (some ⟨g,0,none⟩) M.length cap∧M.length≤cap∧g<w.heap.size∧B≤g∧w.cell? ⟨g,i*2,none⟩=some (.int .u64 (r.1:Int))∧w.cell? ⟨g,i*2+1,none⟩=some lv∧StrsR w lv r.2:=by
 obtain⟨xs,h1,h2,h3,h4⟩:=h;have hlt:=(List.getElem?_eq_some_iff.1 hi).1;obtain⟨x,hx⟩:∃x,xs[i]?=some x:=⟨xs[i]'(by omega),List.getElem?_eq_getElem _⟩;obtain⟨m1,m2⟩:=h2 i x r hx hi;obtain⟨f1,f2⟩:=flat_wC xs i x hx;have hcell:=h3.2;obtain⟨_,hlf,⟨ev,h0⟩|⟨g,cap,cur,ev,hb',hh,hnc,hcm,hcs,htake⟩⟩:=id h3
 · rw[List.length_map]at h0;omega
 · subst ev
   have hc:∀j u,(xs.map wC).flatten[j]?=some u→w.cell? ((⟨g,0,none⟩:Addr).add j)=some u:=hcell.cells (g:=g) rfl;(have hadd:∀j,(⟨g,0,none⟩:Addr).add j=⟨g,j,none⟩:=fun j=>by unfold Addr.add;split<;>simp_all);refine⟨g,cap,x.2,by rw[List.length_map,h1],by rw[List.length_map,h1]at hnc;exact hnc,(Array.getElem?_eq_some_iff.1 hh).1,hb',?_,?_,m2.1⟩
   · rw[←hadd,hc _ _ f1,m1]
   · rw[←hadd,hc _ _ f2]
structure S2L(q o fi:Nat)(Ra:Option Addr)(n Rc:Nat)(W:World):Prop where
 c0:W.cell? ⟨q,o,none⟩=some (.int .u64 (fi:Int))
 c1:W.cell? ⟨q,o+1,none⟩=some (.slice Ra n Rc)
theorem S2L.facts{q o fi:Nat}{Ra:Option Addr}{n Rc:Nat}{W:World}(h:S2L q o fi Ra n Rc W):W.cell? ⟨q,o,none⟩=some (.int .u64 (fi:Int))∧W.cell? ⟨q,o+1,none⟩=some (.slice Ra n Rc):=⟨h.c0,h.c1⟩
theorem S2L.below{q o fi:Nat}{Ra:Option Addr}{n Rc:Nat}{W W':World}(h:S2L q o fi Ra n Rc W)(hb:Below W.heap.size W W')(hq:q<W.heap.size):S2L q o fi Ra n Rc W':=⟨(hb.cell (p:=⟨q,o,none⟩) hq).trans h.c0,(hb.cell (p:=⟨q,o+1,none⟩) hq).trans h.c1⟩
end Go.Proofs.YthecngkdmnadoaaGreat

namespace Go.Proofs.YthecngkdmnadoaaGreat
open Go.RowKit Go.Shelf
set_option maxRecDepth 100000
attribute [local go_sem] Oper.semAt_some
namespace IterS
set_option maxHeartbeats 4000000 in
theorem keys1_stops{α:Type}{f:α→Value}{m:List (Int×α)}{bo:Option Nat}(F:Fence)(n:Nat)(hf:F.fn 95)(hro:F.round=none)(hn:1≤n)(Bm:Nat)(w:World)(hBm:Bm<w.heap.size)
 (hc:w.cell? ⟨Bm,0,none⟩=some (.map bo)) (hm:(keys m).Nodup)
 (hr:∀W,Below w.heap.size w W→∃ob,(Instr.range 88 (.map bo)).run Tryz.prog W = .ok (.pointer (some ⟨W.heap.size,0,none⟩)) (W.alloc ob)∧Ranges .i64 f (W.alloc ob) bo W.heap.size m []):
 SeqStopsK F n Tryz.prog 95 #[.pointer (some ⟨Bm,0,none⟩)] (fun x:Int=>#[.int .i64 x]) KeepsWalks (fun xs=>xs.Perm (keys m)) (fun _=>True) m.length w:=by
 intro l J Jx W hW hJ hJx hY h0;have hcW:W.cell? ⟨Bm,0,none⟩=some (.map bo):=(World.cell?_of_block (a:=⟨Bm,0,none⟩) (hW.block Bm hBm)).trans hc;have hrW:=hr W hW;have HY:Hid (∀pre x W1,J pre W1→pre.length<m.length→YieldAt F (n-1) Tryz.prog l #[.int .i64 x] W1 fun e W'=>(e = .returned (.bool true)∧J (pre++[x]) W'∧KeepsWalks W1 W')∨(e = .returned (.bool false)∧Jx (pre++[x]) W')):=hY;clear hY hr hc;refine callsIn_of_wp Tryz.func95 rfl hf ?_ hro;simp only[Tryz.ntmps95,List.size_toArray,List.length_cons,List.length_nil,Nat.reduceAdd,Nat.reduceSub,Array.replicate_succ,Array.replicate_zero,List.push_toArray,List.append_toArray,List.nil_append,List.cons_append]
 gi_wp2_with (first
  |(gi_at_range;refine wpListIn_range_at hrW rfl _ rfl rfl ?_;intro ob hR0)
  |gi_in)
 go_frame
 gi_loopw [3] (fun _ wr=>∃done:List (Int×α),Ranges .i64 f wr bo W.heap.size m done∧J (keys done) wr) (fun _ wr=>m.length-seenAt wr W.heap.size)
 case atStart=>exact⟨[],hR0,hJ [] W _ none h0 (World.grownBy_alloc W ob none) (fun r e=>by cases e)⟩
 case round=>
  obtain⟨done,hR,hJs⟩:=hrel
  gi_wp2_with (first
   |(gi_at_next;refine wpListIn_next_at hR rfl _ rfl rfl ?_ ?_)
   |gi_in)
  · intro hall
    gi_wp2
    go_end0
    exact⟨⟨_,rfl⟩,.inl ⟨keys done,hR.perm hall hm,hJs⟩⟩
  · intro k v w2 hmem hnk hR2 hone hen
    have hJ2:J (keys done) w2:=hJ (keys done) wr w2 (some W.heap.size) hJs hone.grown (fun r e=>by cases e;exact⟨Nat.le_refl _,hR.iter_walk⟩);have hs1:=hR.seen;have hs2:=hR2.seen;(have hlen:(keys done).length<m.length:=by have:=hs2.2.1;simp[keys]at this ⊢;omega);obtain⟨fn,tmps,assign,body,hy,hRr⟩:=HY.out (keys done) k w2 hJ2 hlen;have HS1:Hid (seenAt wr W.heap.size=done.length∧done.length<m.length):=⟨hs1.1,by simpa[keys]using hlen⟩;clear hs1 hs2 hlen
    gi_wp2
    refine hRr.mono ?_;rintro e W3 (⟨rfl,hJ3,hk3⟩|⟨rfl,hJ3⟩)
    · gi_wp2
      have hR3:=hR2.walks hk3
      go_roundw
      case rel=>exact⟨done++[(k,v)],hR3,by simpa[keys]using hJ3⟩
      case measure=>
       have:=hR3.seen.1;have h1:=HS1.out;rw[this,h1.1];simp;omega
    · gi_wp2
      go_returns;exact⟨⟨_,rfl⟩,.inr ⟨_,trivial,hJ3⟩⟩
set_option maxHeartbeats 1000000 in
theorem Keys_any(bo:Option Nat)(w:World):Calls Tryz.prog 72 #[.map bo] w fun e w'=>e = .returned (.func (.func 95) #[] #[.pointer (some ⟨w.heap.size,0,none⟩)])∧w'=w.alloc (.cells #[.map bo] 88):=by
 go_enter Tryz.func72,Tryz.ntmps72;go_wp2;go_ret;exact⟨rfl,rfl⟩
end IterS
end Go.Proofs.YthecngkdmnadoaaGreat

namespace Go.Proofs.YthecngkdmnadoaaGreat
open Go.RowKit Go.Sort
set_option maxRecDepth 100000
namespace SrtI
abbrev enc:Int→Value:=Value.int .i64
structure RStep(blk off n:Nat)(w w':World):Prop where
 os:w'.os=w.os
 tape:w'.tape=w.tape
 output:w'.output=w.output
 size:w.heap.size≤w'.heap.size
 block:∀k,k<w.heap.size→k≠blk→w'.heap[k]?=w.heap[k]?
 own:∀c e fr,w.heap[blk]?=some (.cells c e fr)→∃c',w'.heap[blk]?=some (.cells c' e fr)∧c'.size=c.size∧∀k,k<off∨off+n≤k→c'[k]?=c[k]?
theorem RStep.refl(blk off n:Nat)(w:World):RStep blk off n w w:=⟨rfl,rfl,rfl,Nat.le_refl _,fun _ _ _=>rfl,fun c _ _ h=>⟨c,h,rfl,fun _ _=>rfl⟩⟩
theorem RStep.trans{blk off n:Nat}{a b c:World}(h:RStep blk off n a b)(k:RStep blk off n b c):RStep blk off n a c:=
 ⟨k.os.trans h.os,k.tape.trans h.tape,k.output.trans h.output,Nat.le_trans h.size k.size,fun i hi hr=>(k.block i (Nat.lt_of_lt_of_le hi h.size) hr).trans (h.block i hi hr),fun c e fr hc=>by
  obtain⟨c1,h1,h2,h3⟩:=h.own c e fr hc;obtain⟨c2,k1,k2,k3⟩:=k.own c1 e fr h1;exact⟨c2,k1,k2.trans h2,fun i hi=>(k3 i hi).trans (h3 i hi)⟩⟩
theorem RStep.drewN{blk off n:Nat}{a w:World}(h:RStep blk off n a w)(m:Nat):RStep blk off n a (w.drewN m):=⟨h.os,h.tape,h.output,h.size,h.block,h.own⟩
theorem RStep.drew{blk off n:Nat}{a w:World}(h:RStep blk off n a w):RStep blk off n a w.drew:=⟨h.os,h.tape,h.output,h.size,h.block,h.own⟩
theorem RStep.setCell{blk off n:Nat}{a w:World}(h:RStep blk off n a w){i:Nat}(hi:i<n)(v:Value):RStep blk off n a (w.setCell ⟨blk,off+i,none⟩ v):=
 h.trans ⟨rfl,rfl,rfl,by simp[World.setCell],fun k _ hk=>Below.heap_setCell _ _ _ _ hk,fun c e fr hc=>⟨c.setIfInBounds (off+i) v,by simp[World.setCell,Array.getElem?_modify,hc],by simp,fun k hk=>by
  rw[Array.getElem?_setIfInBounds_ne (by omega)]⟩⟩
theorem RStep.alloc{blk off n:Nat}{a w:World}(h:RStep blk off n a w)(hb:blk<w.heap.size)(o:Obj):RStep blk off n a (w.alloc o):=
 h.trans ⟨rfl,rfl,rfl,by simp,fun k hk _=>Below.heap_alloc _ _ _ hk,fun c e fr hc=>⟨c,(Below.heap_alloc _ _ _ hb).trans hc,rfl,fun _ _=>rfl⟩⟩
theorem holds_swap{w:World}{blk off:Nat}{d:Array Int}(h:Holds enc w blk off d){i j:Nat}(hi:i<d.size)(hj:j<d.size):
 Holds enc ((w.setCell ⟨blk,off+i,none⟩ (enc d[j]!)).setCell ⟨blk,off+j,none⟩ (enc d[i]!)) blk off (swp d i j):=by
 rw[show(w.setCell ⟨blk,off+i,none⟩ (enc d[j]!)).setCell ⟨blk,off+j,none⟩ (enc d[i]!)=putRow enc w blk off (swp d i j)from by
  rw[←putRow_swp enc w blk off d i j hi hj,putRow_self enc w blk off d h]]
 exact holds_putRow enc w blk off d (swp d i j) h (size_swp d i j)
theorem holds_drewN{w:World}{blk off:Nat}{d:Array Int}(h:Holds enc w blk off d)(n:Nat):Holds enc (w.drewN n) blk off d:=h
theorem holds_drew{w:World}{blk off:Nat}{d:Array Int}(h:Holds enc w blk off d):Holds enc w.drew blk off d:=h
theorem holds_same{w w':World}{blk off:Nat}{d:Array Int}(h:Holds enc w blk off d)(e:w'.heap[blk]?=w.heap[blk]?):Holds enc w' blk off d:=fun j hj=>
 ⟨(World.cell?_of_block (w:=w) (a:=⟨blk,off+j,none⟩) e).trans (h j hj).1,(World.frozen?_of_block (w:=w) (a:=⟨blk,off+j,none⟩) e).trans (h j hj).2⟩
structure At(blk off:Nat)(w w':World)(n:Nat)(d:Array Int):Prop where
 holds:Holds enc w' blk off d
 size:d.size=n
 step:RStep blk off n w w'
theorem At.drewN{blk off n:Nat}{w w':World}{d:Array Int}(h:At blk off w w' n d)(m:Nat):At blk off w (w'.drewN m) n d:=⟨h.holds,h.size,h.step.drewN m⟩
theorem At.drew{blk off n:Nat}{w w':World}{d:Array Int}(h:At blk off w w' n d):At blk off w w'.drew n d:=⟨h.holds,h.size,h.step.drew⟩
theorem At.swap{blk off n:Nat}{w w':World}{d:Array Int}(h:At blk off w w' n d){i j:Nat}(hi:i<n)(hj:j<n):
 At blk off w ((w'.setCell ⟨blk,off+i,none⟩ (enc d[j]!)).setCell ⟨blk,off+j,none⟩ (enc d[i]!)) n (swp d i j):=
 ⟨holds_swap h.holds (by rw[h.size];exact hi) (by rw[h.size];exact hj),by rw[size_swp];exact h.size,(h.step.setCell hi _).setCell hj _⟩
theorem At.trans{blk off n:Nat}{w w1 w2:World}{d d':Array Int}(h:At blk off w w1 n d)(k:At blk off w1 w2 n d'):At blk off w w2 n d':=⟨k.holds,k.size,h.step.trans k.step⟩
theorem At.fam{blk off n:Nat}{w w':World}{d:Array Int}(h:At blk off w w' n d):∃G:Nat→Int,(∀t,G t=d[t]!)∧(∀t,t<n→w'.cell? ⟨blk,off+t,none⟩=some (.int .i64 (G t)))∧∀t,t<n→w'.frozen? ⟨blk,off+t,none⟩=false:=
 ⟨fun t=>d[t]!,fun _=>rfl,fun t ht=>(h.holds t (by rw[h.size];exact ht)).1,fun t ht=>(h.holds t (by rw[h.size];exact ht)).2⟩
theorem wrapId{x:Int}(h1 : -9223372036854775808≤x)(h2:x≤9223372036854775807):IntKind.i64.wrap x=x:=by
 simp[IntKind.wrap,IntKind.bits,IntKind.signed];omega
set_option maxHeartbeats 1000000 in
theorem isNaN_any(x:Int)(w:World):Calls Tryz.prog 144 #[.int .i64 x] w fun e w'=>e = .returned (.bool false)∧w'=w:=by
 go_enter Tryz.func144,Tryz.ntmps144;go_wp2;go_ret;exact⟨by simp,rfl⟩
set_option maxHeartbeats 1000000 in
theorem Less_any(x y:Int)(w:World):Calls Tryz.prog 137 #[.int .i64 x,.int .i64 y] w fun e w'=>e = .returned (.bool (ltInt x y))∧w'=w:=by
 go_enter Tryz.func137,Tryz.ntmps137;go_wp2_with (go_at_call 144;refine(isNaN_any _ _).mono ?_;rintro e w' ⟨rfl,rfl⟩);go_ret;exact⟨rfl,rfl⟩
end SrtI
end Go.Proofs.YthecngkdmnadoaaGreat

namespace Go.Proofs.YthecngkdmnadoaaGreat
open Go.RowKit Go.Sort
set_option maxRecDepth 100000
namespace SrtI
theorem ins_go{a j:Nat}{d:Array Int}(hj:a<j)(hl:ltInt d[j]! d[j-1]! = true):insInner ltInt a j d=insInner ltInt a (j-1) (swp d j (j-1)):=by
 obtain⟨k,rfl⟩:∃k,j=k+1:=⟨j-1,by omega⟩;rw[insInner];simp only[Nat.add_sub_cancel]at hl ⊢;rw[if_pos (by simp[hj,hl])]
theorem ins_stop{a j:Nat}{d:Array Int}(h:j≤a∨ltInt d[j]! d[j-1]! = false):insInner ltInt a j d=d:=by
 cases j with
 |zero=>rfl
 |succ k=>
  rw[insInner];simp only[Nat.add_sub_cancel]at h;rw[if_neg];rcases h with h|h
  · simp;omega
  · simp[h]
theorem outer_go{a b i:Nat}{d:Array Int}(h:i<b):insOuter ltInt a b i d=insOuter ltInt a b (i+1) (insInner ltInt a i d):=by rw[insOuter,if_pos h]
set_option maxHeartbeats 4000000 in
theorem insertionSort_any(blk off cap a b:Nat)(d:Array Int)(w:World)(hH:Holds enc w blk off d)(hab:a≤b)(hb:b≤d.size)(hsz:d.size<4611686018427387904):
 Calls Tryz.prog 131 #[.slice (some ⟨blk,off,none⟩) d.size cap,.int .i64 a,.int .i64 b] w fun e w'=>
  e = .returned (.tuple #[])∧At blk off w w' d.size (Sort.insertionSort ltInt d a b):=by
 have HA:Hid (At blk off w w d.size d):=⟨hH,rfl,RStep.refl _ _ _ _⟩;have HE:Hid (Sort.insertionSort ltInt d a b=insOuter ltInt a b (a+1) d):=rfl;generalize hn:d.size=n at *;clear hH hn;go_enter Tryz.func131,Tryz.ntmps131;go_wp2
 go_loopw [6] (fun vi wr=>∃(i:Nat) (dk:Array Int),vi = .int .i64 i∧a<i∧i≤b+1∧At blk off w wr n dk∧insOuter ltInt a b i dk=insOuter ltInt a b (a+1) d) (fun vi _=>b+1-(intOf vi).toNat)
 case atStart=>exact⟨a+1,d,by go_num,by omega,by omega,HA.out,rfl⟩
 case round=>
  obtain⟨i,dk,rfl,hai,hib,hAt,hO⟩:=hrel;have HO:Hid (insOuter ltInt a b i dk=insOuter ltInt a b (a+1) d):=hO;have HK:Hid (At blk off w wr n dk):=hAt;clear hO hAt;go_wp2
  · have hib2:i<b:=by assumption
    go_loopw [7] (fun vj wr2=>∃(j:Nat) (dj:Array Int),vj = .int .i64 j∧a≤j∧j≤i∧At blk off w wr2 n dj∧insInner ltInt a j dj=insInner ltInt a i dk) (fun vj _=>(intOf vj).toNat)
    case atStart=>exact⟨i,dk,rfl,by omega,Nat.le_refl _,HK.out,rfl⟩
    case round=>
     obtain⟨j,dj,rfl,haj,hji,hAj,hI⟩:=hrel;obtain⟨G,hG,hcw,hfw⟩:=hAj.fam;have HG:Hid (∀t,G t=dj[t]!):=hG;have HAj:Hid (At blk off w wr n dj):=hAj;have HI:Hid (insInner ltInt a j dj=insInner ltInt a i dk):=hI;clear hG hAj hI;go_wp2;by_cases hja:a<j
     · go_quiet (first|(go_at_call 137;refine Calls.quiet_of_same (Less_any _ _ _)))
       go_wp2
       · have hl:ltInt (G j) (G (j-1))=true:=by assumption
         go_region
         all_goals go_wp2
         go_roundw
         case rel=>
          refine⟨j-1,swp dj j (j-1),by congr 1;omega,by omega,by omega,?_,?_⟩
          · rw[HG.out,HG.out]
            exact((HAj.out.drewN _).drew).swap (by omega) (by omega)
          · rw[←HI.out,ins_go hja (by rw[←HG.out,←HG.out];exact hl)]
         case measure=>simp[intOf];omega
       · have hl:ltInt (G j) (G (j-1))=false:=by assumption
         go_roundw
         (case rel=>exact⟨i+1,dj,by go_num,by omega,by omega,HAj.out.drewN _,by rw[←HO.out,outer_go hib2,←HI.out,ins_stop (.inr (by rw[←HG.out,←HG.out];exact hl))]⟩);case measure=>simp[intOf];omega
     · go_quiet (first|(go_at_call 137;refine Calls.quiet_of_same (Less_any _ _ _)))
       go_wp2
       go_roundw
       (case rel=>exact⟨i+1,dj,by go_num,by omega,by omega,HAj.out.drewN _,by rw[←HO.out,outer_go hib2,←HI.out,ins_stop (.inl (by omega))]⟩);case measure=>simp[intOf];omega
  · have hge:¬i<b:=by omega
    go_end0
    exact⟨rfl,by rw[HE.out,←HO.out,insOuter,if_neg hge];exact HK.out⟩
end SrtI
end Go.Proofs.YthecngkdmnadoaaGreat
