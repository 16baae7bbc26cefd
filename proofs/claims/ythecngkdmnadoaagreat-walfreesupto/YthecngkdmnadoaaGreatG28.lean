/- Texts that were written apart, joined. -/
import Derived.Test.YthecngkdmnadoaaGreatG27
import Derived.Test.YthecngkdmnadoaaGreatG23
import Derived.BigQuiet
import Derived.Test.YthecngkdmnadoaaGreatG24
import Derived.Test.YthecngkdmnadoaaGreatWalFr
import Derived.Test.YthecngkdmnadoaaGreatG00
namespace Go.Proofs.YthecngkdmnadoaaGreat
open Go.RowKit
set_option maxRecDepth 100000
theorem stepE_e(d:DS):stepE d=0∨stepE d=30:=by
 unfold stepE
 split
 · exact .inr rfl
 · split
   · exact .inr rfl
   · exact .inl rfl
theorem aheadR_e(d:DS)(a:Int)(l:List Pl)(i:Nat):(aheadR d a l i).1=0∨(aheadR d a l i).1=30:=by
 unfold aheadR
 split
 · exact .inl rfl
 · split
   · exact frsR_e _ _
   · exact stepE_e d
theorem SOwn.lt{B:Nat}{w:World}{ad:Option Addr}{n c:Nat}{l:List Sv}(h:SOwn B w (.slice ad n c) l):∀x∈ownB ad,x<w.heap.size:=by
 obtain⟨hl,⟨e,_⟩|⟨g,cap,cur,e,h1,hg,h2⟩⟩:=h
 · simp only[Value.slice.injEq]at e
   rw[e.1];simp[ownB]
 · simp only[Value.slice.injEq]at e
   rw[e.1];intro x hx;simp[ownB]at hx;rw[hx];exact(Array.getElem?_eq_some_iff.1 hg).1
theorem WalAt.compact{w:World}{b:Nat}{n:WN}{v:WV}(h:WalAt w b { n with fault:=0 } v)(m i:Nat):
 WalAt ((w.setCell ⟨b,2,none⟩ (.slice v.ra m v.rc)).setCell ⟨b,1,none⟩ (.int .u64 (i:Int))) b { n with first:=i,many:=m,fault:=0 } v:=by
 have h1:=set_cell h 2 (.slice v.ra m v.rc);have h2:=set_cell h1 1 (.int .u64 (i:Int));exact h2
def CompactSays(B N b i t:Nat)(R:Int×DS)(fp:List Nat)(n:WN)(v:WV)(l:List Pl)(s:List Sv)(w:World)(e:Ending)(w':World):Prop:=
 e = .returned (.int .i64 R.1)∧(∃fp',DiskAt N w' v.p R.2 fp'∧∀x∈fp',x∈fp∨w.heap.size≤x)∧Only (b::(ownB v.ra++(ownB v.pa++fp))) w w' ∧
  ((R.1=0∧WalAt w' b { n with first:=i,many:=n.many-(i-n.first),fault:=0 } { v with pn:=v.pn-t }∧QOwn B w' (.slice v.pa (v.pn-t) v.pc) (l.drop t)∧SOwn B w' (.slice v.ra (n.many-(i-n.first)) v.rc) (s.drop (i-n.first))) ∨
   (R.1≠0∧WalAt w' b { n with fault:=R.1 } v∧QOwn B w' (.slice v.pa v.pn v.pc) l∧SOwn B w' (.slice v.ra n.many v.rc) s))
set_option maxHeartbeats 2000000 in
theorem Compact_walk(B N b i:Nat)(d:DS)(fp:List Nat)(n:WN)(v:WV)(l:List Pl)(s:List Sv)(w:World)(h:DiskAt N w v.p d fp)(hw:WalAt w b n v)(hN:N<549755813887)(hq:QOwn B w (.slice v.pa v.pn v.pc) l)(hkn:v.pn<549755813888)
 (hso:SOwn B w (.slice v.ra n.many v.rc) s) (hmn:n.many<1099511627776) (hfi:n.first≤4611686018427387904)
 (hbf:b∉fp) (hgf:∀x∈ownB v.pa,x∉fp∧x≠b) (hrf:∀x∈ownB v.ra,x∉fp∧x≠b∧x∉ownB v.pa) (hl:∀x∈l,x.1≤1152921504606846976) (hf:n.fault=0) (hi1:n.first<i) (hi2:i≤n.first+n.many):
 Calls Tryz.prog 29 #[.pointer (some ⟨b,0,none⟩),.int .u64 i] w (CompactSays B (N+1+l.length) b i (downTo l i (l.length-1)) (aheadR d n.area l i) fp n v l s w):=by
 have hsz:=hso.lt;have hbz:=hw.lt
 have HFA:Hid (∀w0,Only [] w w0→Calls Tryz.prog 59 #[.pointer (some ⟨b,0,none⟩),.int .u64 i] w0 (AheadSays B (N+1+l.length) b (downTo l i (l.length-1)) (aheadR d n.area l i) fp n v l w0)):=
  fun w0 h0=>freeAhead_any B N b i d fp n v l w0 (h.apart h0 (by simp)) ((h0.block b hw.lt (by simp)).trans hw) hN (hq.only h0 (by simp)) hkn hbf hgf hl
 have HW:Hid (WalAt w b n v):=hw;obtain⟨c0,c1,c2,c3,c4,c5,c6,c7,c8,c9,hz⟩:=hw.cells;rw[hf]at c9;have h1:¬((n.first:Int)+(n.many:Int)<(i:Int)):=by omega
 have h1b:decide ((n.first:Int)+(n.many:Int)<(i:Int))=false:=by simpa using h1
 have h2:¬((i:Int)≤(n.first:Int)):=by omega
 have HEND:Hid (∀w0,Only [] w w0→Calls Tryz.prog 55 #[.pointer (some ⟨b,0,none⟩)] w0 fun e w'=>e = .returned (.int .u64 ((n.first+n.many:Nat):Int))∧∃k,w'=w0.drewN k):=fun w0 h0=>wend_any w0 b n v ((h0.block b hw.lt (by simp)).trans hw) (by omega) (by omega)
 obtain⟨r,hr⟩:∃r,(aheadR d n.area l i).1=r:=⟨_,rfl⟩;obtain⟨t,ht⟩:∃t,downTo l i (l.length-1)=t:=⟨_,rfl⟩
 have HFB:Hid (∀w0,Only [] w w0→Calls Tryz.prog 59 #[.pointer (some ⟨b,0,none⟩),.int .u64 i] w0 fun e w'=>e = .returned (.int .i64 r)∧(∃fp',DiskAt (N+1+l.length) w' v.p (aheadR d n.area l i).2 fp'∧∀x∈fp',x∈fp∨w0.heap.size≤x)∧Only (b::(ownB v.pa++fp)) w0 w' ∧
  ((r=0∧WalAt w' b n { v with pn:=v.pn-t }∧QOwn B w' (.slice v.pa (v.pn-t) v.pc) (l.drop t))∨(r≠0∧WalAt w' b n v∧QOwn B w' (.slice v.pa v.pn v.pc) l))):=by
  intro w0 h0;refine(HFA.out w0 h0).mono ?_;rintro e w' ⟨a1,a2,a3,a4⟩;rw[hr]at a1 a4;rw[ht]at a4;exact⟨a1,a2,a3,a4⟩
 clear HFA;rcases aheadR_e d n.area l i with h0|h0
 · rw[hr]at h0
   subst h0;go_enter Tryz.func29,Tryz.ntmps29
   go_wp2_with (first
    |(go_at_call 55;refine(HEND.out _ (Only.refl _ _)).mono ?_;rintro e w0 ⟨rfl,k0,hw0⟩;subst w0)
    |(go_at_call 59;refine(HFB.out _ ((Only.refl [] w).drewN k0)).mono ?_;rintro e w1 ⟨rfl,hd1,hO1,⟨-,hW1,hq1⟩|⟨hx,-⟩⟩;rotate_left;(exact absurd rfl hx))
    |(go_at_call 48;refine(keep_any _ b n { v with pn:=v.pn-t } 0 hW1).mono ?_;rintro e w2 ⟨rfl,hw2⟩;rw[if_neg (by decide)]at hw2;have hW2:=(show WalAt w2 b { n with fault:=0 } { v with pn:=v.pn-t } from hw2▸hW1.fault 0);have HW2E:=(show Hid (w2=w1.setCell ⟨b,9,none⟩ (.int .i64 0))from hw2);clear hw2;obtain⟨d0,d1,d2,d3,d4,d5,d6,d7,d8,d9,dz⟩:=hW2.cells))
   have hOs:Only (b::(ownB v.pa++fp)) w w2.drew:=by
    rw[HW2E.out];exact(((Only.refl _ w).drewN k0).then hO1 (fun _ hx=>hx) |>.setCell (by simp) _ _).drew
   have hso2:SOwn B w2.drew (.slice v.ra n.many v.rc) s:=hso.only hOs (fun x hx hx'=>by
    obtain⟨q1,q2,q3⟩:=hrf x hx;rcases List.mem_cons.1 hx' with e|hx'
    · exact q2 e
    · rcases List.mem_append.1 hx' with e|e
      · exact q3 e
      · exact q1 e)
   obtain⟨k,hk⟩:∃k,i-n.first=k:=⟨_,rfl⟩;(have hkz:(i:Int)-(n.first:Int)=(k:Int):=by omega);(have hww:IntKind.u64.wrap (k:Int)=(k:Int):=by simp[IntKind.wrap,IntKind.bits,IntKind.signed];omega);(have hwi:IntKind.i64.wrap (k:Int)=(k:Int):=by simp[IntKind.wrap,IntKind.bits,IntKind.signed];omega);have HDEL:Hid (Calls Tryz.prog 60 #[.slice v.ra n.many v.rc,.int .i64 0,.int .i64 k] w2.drew fun e w'=>e = .returned (.slice v.ra (n.many-k) v.rc)∧SOwn B w' (.slice v.ra (n.many-k) v.rc) (s.drop k)∧Only (ownB v.ra) w2.drew w'):=by
    have:=deleteS_all B w2.drew v.ra n.many v.rc 0 k s hso2 (Nat.zero_le _) (by omega) hmn;rw[Nat.sub_zero,List.take_zero,List.nil_append]at this;exact this
   have hS2:S4 b n.first (.slice v.ra n.many v.rc) w2.drew:=⟨d1,d2⟩;have hb2:b<w2.heap.size:=hW2.lt;have HW2:Hid (WalAt w2 b { n with fault:=0 } { v with pn:=v.pn-t }):=hW2;clear d0 d1 d2 d3 d4 d5 d6 d7 d8 d9 c0 c1 c2 c3 c4 c5 c6 c7 c8 c9 hW2;refine region_atE (S:=S4 b n.first (.slice v.ra n.many v.rc)) 16 15 rfl (by kernel_rfl) ?_;refine te4 S4.facts 0 36 1 37 2 38 3 39 ?_;simp only[sZa,sZb,sZc];refine te4 S4.facts 4 40 5 41 6 42 7 43 ?_;simp only[sZa,sZb,sZc];refine te4 S4.facts 8 44 9 45 10 46 11 47 ?_;simp only[sZa,sZb,sZc];refine one_callE (i:=12) (w0:=w2.drew) 48 60 #[.slice v.ra n.many v.rc,.int .i64 0,.int .i64 k] (by kernel_rfl) rfl rfl (by rfl) (by kernel_rfl) ?_;refine HDEL.out.mono ?_;rintro e w3 ⟨rfl,hs3,hO3⟩;have hW3:WalAt w3 b { n with fault:=0 } { v with pn:=v.pn-t }:=(hO3.block b hb2 (fun hx=>(hrf b hx).2.1 rfl)).trans HW2.out;obtain⟨d0,d1,d2,d3,d4,d5,d6,d7,d8,d9,dz3⟩:=hW3.cells;have hS3:S4 b n.first (.slice v.ra n.many v.rc) w3:=⟨d1,d2⟩;refine⟨_,rfl,hS3,?_⟩;simp only[sZa,sZb,sZc];refine one_valueE (i:=13) (v := .pointer (some ⟨b,0,none⟩)) (w':=w3) 49 (by kernel_rfl) rfl rfl (by rfl) (by kernel_rfl) hS3 ?_;simp only[sZa,sZb,sZc];refine one_valueE (i:=14) (v := .pointer (some ⟨b,2,none⟩)) (w':=w3) 50 (by kernel_rfl) rfl rfl (by rfl) (by kernel_rfl) hS3 ?_;simp only[sZa,sZb,sZc];refine last_skipE (w':=w3.setCell ⟨b,2,none⟩ (.slice v.ra (n.many-k) v.rc)) (by kernel_rfl) rfl rfl (by rfl) (by go_simp;first|done|exact rfl) (by kernel_rfl) ?_;go_wp2_with fail;go_ret;obtain⟨w5,hw5⟩:∃w5,(w3.setCell ⟨b,2,none⟩ (.slice v.ra (n.many-k) v.rc)).setCell ⟨b,1,none⟩ (.int .u64 (i:Int))=w5:=⟨_,rfl⟩;have hOb:Only [b] w3 w5:=by
    rw[←hw5];exact((Only.refl [b] w3).setCell (by simp) _ _).setCell (by simp) _ _
   have hW5:WalAt w5 b { n with first:=i,many:=n.many-k,fault:=0 } { v with pn:=v.pn-t }:=hw5▸hW3.compact (n.many-k) i;rw[hw5];have hO2:Only [b] w1 w2.drew:=by
    rw[HW2E.out];exact((Only.refl [b] w1).setCell (by simp) _ _).drew
   have hO5:Only (b::ownB v.ra) w1 w5:=((hO2.wider (fp':=b::ownB v.ra) (fun y hy=>by rw[List.mem_singleton]at hy;simp[hy])).then hO3 (fun y hy=>by simp[hy])).then hOb (fun y hy=>by rw[List.mem_singleton]at hy;simp[hy]);obtain⟨fp',hD1,hs1⟩:=hd1;refine⟨by rw[hr];rfl,⟨fp',hD1.apart hO5 fun x hx hx'=>?_,hs1⟩,?_,.inl ⟨hr,?_,?_,?_⟩⟩
   · rcases List.mem_cons.1 hx' with e|hx'
     · subst e
       rcases hs1 x hx with q|q
       · exact hbf q
       · have:w.heap.size≤x:=q
         omega
     · rcases hs1 x hx with q|q
       · exact(hrf x hx').1 q
       · have:w.heap.size≤x:=q
         have:=hsz x hx';omega
   · refine((((Only.refl _ w).drewN k0).then hO1 (fun _ hx=>hx)).wider (fp':=b::(ownB v.ra++(ownB v.pa++fp))) (fun y hy=>?_)).then hO5 (fun y hy=>?_)
     · rcases List.mem_cons.1 hy with e|hy
       · simp[e]
       · simp[List.mem_append.1 hy]
     · rcases List.mem_cons.1 hy with e|hy
       · simp[e]
       · simp[hy]
   · rw[hk];exact hW5
   · exact hq1.only hO5 (fun ad n c e x hx hx'=>by
      simp only[Value.slice.injEq]at e;rw[←e.1]at hx;rcases List.mem_cons.1 hx' with e|hx'
      · exact(hgf x hx).2 e
      · exact(hrf x hx').2.2 hx)
   · rw[hk]
     exact hs3.only hOb (fun x hx hx'=>by rw[List.mem_singleton]at hx';exact(hrf x hx).2.1 hx')
 · rw[hr]at h0
   subst h0;go_enter Tryz.func29,Tryz.ntmps29
   go_wp2_with (first
    |(go_at_call 55;refine(HEND.out _ (Only.refl _ _)).mono ?_;rintro e w0 ⟨rfl,k0,hw0⟩;subst w0)
    |(go_at_call 59;refine(HFB.out _ ((Only.refl [] w).drewN k0)).mono ?_;rintro e w1 ⟨rfl,hd1,hO1,⟨hx,-⟩|⟨-,hW1,hq1⟩⟩;(exact absurd hx (by decide)))
    |(go_at_call 48;refine(keep_any _ b n v 30 hW1).mono ?_;rintro e w2 ⟨rfl,hw2⟩;rw[if_neg (by decide)]at hw2;have HW2E:=(show Hid (w2=w1.setCell ⟨b,9,none⟩ (.int .i64 30))from hw2);clear hw2))
   go_ret;have e2:=HW2E.out;obtain⟨fp',hD1,hs1⟩:=hd1;have hOb:Only [b] w1 w2:=by
    rw[e2];exact(Only.refl [b] w1).setCell (by simp) _ _
   have hOs:Only (b::(ownB v.pa++fp)) w w2:=(((Only.refl _ w).drewN k0).then hO1 (fun _ hx=>hx)).then hOb (fun y hy=>by rw[List.mem_singleton]at hy;simp[hy]);refine⟨by rw[hr];rfl,⟨fp',hD1.apart hOb fun x hx hx'=>?_,hs1⟩,hOs.wider (fun y hy=>?_),.inr ⟨by rw[hr];decide,?_,?_,?_⟩⟩
   · rw[List.mem_singleton]at hx'
     subst hx';rcases hs1 x hx with q|q
     · exact hbf q
     · have:w.heap.size≤x:=q
       omega
   · rcases List.mem_cons.1 hy with e|hy
     · simp[e]
     · simp[List.mem_append.1 hy]
   · rw[hr,e2]
     exact hW1.fault 30
   · exact hq1.only hOb (fun ad n c e x hx hx'=>by
      simp only[Value.slice.injEq]at e;rw[←e.1]at hx;rw[List.mem_singleton]at hx';exact(hgf x hx).2 hx')
   · exact hso.only hOs (fun x hx hx'=>by
      obtain⟨q1,q2,q3⟩:=hrf x hx;rcases List.mem_cons.1 hx' with e|hx'
      · exact q2 e
      · rcases List.mem_append.1 hx' with e|e
        · exact q3 e
        · exact q1 e)
end Go.Proofs.YthecngkdmnadoaaGreat

namespace Go.Proofs.YthecngkdmnadoaaGreat
open Go.RowKit
set_option maxRecDepth 100000
theorem drewN_add0(w:World):w=w.drewN 0:=rfl
set_option maxHeartbeats 1000000 in
theorem Compact_fault(b i:Nat)(n:WN)(v:WV)(w:World)(hw:WalAt w b n v)(hf:¬n.fault=0):Calls Tryz.prog 29 #[.pointer (some ⟨b,0,none⟩),.int .u64 i] w fun e w'=>e = .returned (.int .i64 n.fault)∧w'=w:=by
 obtain⟨c0,c1,c2,c3,c4,c5,c6,c7,c8,c9,hz⟩:=hw.cells;have h1:(n.fault==0)=false:=by simpa using hf
 have h2:(n.fault != 0)=true:=by simpa using hf
 clear c0 c1 c2 c3 c4 c5 c6 c7 c8 hw;go_enter Tryz.func29,Tryz.ntmps29;go_wp2_with fail;go_ret;exact⟨rfl,rfl⟩
set_option maxHeartbeats 1000000 in
theorem Truncate_fault(b i:Nat)(n:WN)(v:WV)(w:World)(hw:WalAt w b n v)(hf:¬n.fault=0):Calls Tryz.prog 42 #[.pointer (some ⟨b,0,none⟩),.int .u64 i] w fun e w'=>e = .returned (.int .i64 n.fault)∧w'=w:=by
 obtain⟨c0,c1,c2,c3,c4,c5,c6,c7,c8,c9,hz⟩:=hw.cells;have h1:(n.fault==0)=false:=by simpa using hf
 have h2:(n.fault != 0)=true:=by simpa using hf
 clear c0 c1 c2 c3 c4 c5 c6 c7 c8 hw;go_enter Tryz.func42,Tryz.ntmps42;go_wp2_with fail;go_ret;exact⟨rfl,rfl⟩
set_option maxHeartbeats 1000000 in
theorem WSync_fault(b:Nat)(n:WN)(v:WV)(w:World)(hw:WalAt w b n v)(hf:¬n.fault=0):Calls Tryz.prog 24 #[.pointer (some ⟨b,0,none⟩)] w fun e w'=>e = .returned (.int .i64 n.fault)∧w'=w:=by
 obtain⟨c0,c1,c2,c3,c4,c5,c6,c7,c8,c9,hz⟩:=hw.cells;have h1:(n.fault==0)=false:=by simpa using hf
 have h2:(n.fault != 0)=true:=by simpa using hf
 clear c0 c1 c2 c3 c4 c5 c6 c7 c8 hw;go_enter Tryz.func24,Tryz.ntmps24;go_wp2_with fail;go_ret;exact⟨rfl,rfl⟩
set_option maxHeartbeats 1000000 in
theorem Compact_range(b i:Nat)(n:WN)(v:WV)(w:World)(hw:WalAt w b n v)(hf:n.fault=0)(hs:n.first+n.many<18446744073709551616)(hm:n.many≤9223372036854775807)(hi:n.first+n.many<i):Calls Tryz.prog 29 #[.pointer (some ⟨b,0,none⟩),.int .u64 i] w fun e w'=>e = .returned (.int .i64 51)∧∃k,w'=w.drewN k:=by
 obtain⟨c0,c1,c2,c3,c4,c5,c6,c7,c8,c9,hz⟩:=hw.cells;rw[hf]at c9;have h1:(n.first:Int)+(n.many:Int)<(i:Int):=by omega
 have HE:Hid (Calls Tryz.prog 55 #[.pointer (some ⟨b,0,none⟩)] w fun e w'=>e = .returned (.int .u64 ((n.first+n.many:Nat):Int))∧∃k,w'=w.drewN k):=wend_any w b n v hw hs hm;clear c0 c1 c2 c3 c4 c5 c6 c7 c8 hw;go_enter Tryz.func29,Tryz.ntmps29;go_wp2_with (go_at_call 55;refine HE.out.mono ?_;rintro e w0 ⟨rfl,k0,hw0⟩;subst w0);go_ret;exact⟨rfl,k0,rfl⟩
set_option maxHeartbeats 1000000 in
theorem Compact_none(b i:Nat)(n:WN)(v:WV)(w:World)(hw:WalAt w b n v)(hf:n.fault=0)(hs:n.first+n.many<18446744073709551616)(hm:n.many≤9223372036854775807)(hi:i≤n.first):Calls Tryz.prog 29 #[.pointer (some ⟨b,0,none⟩),.int .u64 i] w fun e w'=>e = .returned (.int .i64 0)∧∃k,w'=w.drewN k:=by
 obtain⟨c0,c1,c2,c3,c4,c5,c6,c7,c8,c9,hz⟩:=hw.cells;rw[hf]at c9;have h1:¬(n.first:Int)+(n.many:Int)<(i:Int):=by omega
 have h1b:decide ((n.first:Int)+(n.many:Int)<(i:Int))=false:=by simpa using h1
 have h2:(i:Int)≤(n.first:Int):=by omega
 have HE:Hid (Calls Tryz.prog 55 #[.pointer (some ⟨b,0,none⟩)] w fun e w'=>e = .returned (.int .u64 ((n.first+n.many:Nat):Int))∧∃k,w'=w.drewN k):=wend_any w b n v hw hs hm;clear c0 c2 c3 c4 c5 c6 c7 c8 hw;go_enter Tryz.func29,Tryz.ntmps29;go_wp2_with (go_at_call 55;refine HE.out.mono ?_;rintro e w0 ⟨rfl,k0,hw0⟩;subst w0);go_ret;exact⟨rfl,k0,rfl⟩
end Go.Proofs.YthecngkdmnadoaaGreat

namespace Go.Proofs.YthecngkdmnadoaaGreat
open Go.RowKit
set_option maxRecDepth 100000
def WSyncSays(N b:Nat)(d:DS)(fp:List Nat)(n:WN)(v:WV)(w:World)(e:Ending)(w':World):Prop:=
 e = .returned (.int .i64 (stepE d))∧(∃fp',DiskAt N w' v.p (syD d n.area) fp'∧∀x∈fp',x∈fp∨w.heap.size≤x)∧Only (b::fp) w w'∧WalAt w' b { n with fault:=stepE d } v
set_option maxHeartbeats 2000000 in
theorem WSync_any(N b:Nat)(d:DS)(fp:List Nat)(n:WN)(v:WV)(w:World)(h:DiskAt N w v.p d fp)(hw:WalAt w b n v)(hN:N<1099511627776)(hbf:b∉fp)(hf:n.fault=0)(ha:n.adrift=false):
 Calls Tryz.prog 24 #[.pointer (some ⟨b,0,none⟩)] w (WSyncSays (N+1) b d fp n v w):=by
 have HD:Hid (DiskAt N w v.p d fp):=h;have HW:Hid (WalAt w b n v):=hw;have hb0:=hw.lt;obtain⟨c0,c1,c2,c3,c4,c5,c6,c7,c8,c9,hz⟩:=hw.cells;rw[hf]at c9;rw[ha]at c8;clear c1 c2 c3 c4 c6 c7 h hw;obtain⟨p,hp⟩:∃p,v.p=p:=⟨_,rfl⟩;rw[hp]at c0;have hS0:S3 b p (n.area:Int) w.drew:=⟨c0,c5⟩;have HD0:Hid (DiskAt N w.drew p d fp):=by
  have hd:DiskAt N w.drew v.p d fp:=HD.out.below (Below.refl _ w).drew;rw[hp]at hd;exact hd
 go_enter Tryz.func24,Tryz.ntmps24;go_wp2_with fail;clear c0 c5 c8 c9;refine region_at (S:=S3 b p (n.area:Int)) 13 rfl (by kernel_rfl) hS0 (fun _=>?_);refine tq4 S3.facts 0 28 1 29 2 30 3 31 ?_;simp only[sZa,sZb,sZc];refine tq4 S3.facts 4 32 5 33 6 34 7 35 ?_;simp only[sZa,sZb,sZc];refine tq2 S3.facts 8 36 9 37 ?_;simp only[sZa,sZb,sZc];refine one_call (i:=10) (w0:=w.drew) 38 26 #[.pointer (some ⟨p,0,none⟩),.int .u64 (n.area:Int)] (by kernel_rfl) rfl rfl (by rfl) (by kernel_rfl) ?_;refine(Sync_any N p d fp _ _ HD0.out hN).mono ?_;rintro e w1 ⟨rfl,fp1,hD1,hO1,hs1⟩;have hW1:WalAt w1 b n v:=(hO1.block b hb0 hbf).trans HW.out;obtain⟨d0,d1,d2,d3,d4,d5,d6,d7,d8,d9,dz⟩:=hW1.cells;rw[hp]at d0;have hS1:S3 b p (n.area:Int) w1:=⟨d0,d5⟩;clear d1 d2 d3 d4 d6 d7 d8 d9;refine⟨_,rfl,hS1,fun _=>?_⟩;simp only[sZa,sZb,sZc];refine one_call (i:=11) (w0:=w1) 39 48 #[.pointer (some ⟨b,0,none⟩),.int .i64 (stepE d)] (by kernel_rfl) rfl rfl (by rfl) (by kernel_rfl) ?_;refine(keep_any w1 b n v (stepE d) hW1).mono ?_;rintro e w2 ⟨rfl,hw2⟩;rw[if_neg (by rcases stepE_e d with k|k<;>rw[k]<;>decide)]at hw2;have hW2:WalAt w2 b { n with fault:=stepE d } v:=hw2▸hW1.fault _;obtain⟨f0,f1,f2,f3,f4,f5,f6,f7,f8,f9,fz⟩:=hW2.cells;rw[hp]at f0;have hS2:S3 b p (n.area:Int) w2:=⟨f0,f5⟩;have hOb:Only [b] w1 w2:=by
  rw[hw2];exact(Only.refl [b] w1).setCell (by simp) _ _
 clear f0 f1 f2 f3 f4 f5 f6 f7 f8 f9 hw2;refine⟨_,rfl,hS2,fun _=>?_⟩;simp only[sZa,sZb,sZc];refine one_value (i:=12) (v := .int .i64 (stepE d)) (w':=w2) 2 (by kernel_rfl) rfl rfl (by rfl) (by kernel_rfl) hS2 (fun _=>?_);refine wpAnyH_done (by kernel_rfl) ?_ _;simp only[sZa,sZb,sZc];go_wp2_with fail;go_ret;have hO0:Only (b::fp) w w1:=⟨hO1.os,hO1.tape,hO1.output,hO1.size,fun j hj hx=>hO1.block j hj fun hy=>hx (by simp[hy])⟩;refine⟨rfl,⟨fp1,?_,hs1⟩,hO0.then hOb (fun y hy=>by rw[List.mem_singleton]at hy;simp[hy]),hW2⟩;rw[hp];refine hD1.apart hOb fun x hx hx'=>?_
 rw[List.mem_singleton]at hx';subst hx';rcases hs1 x hx with q|q
 · exact hbf q
 · have:w.heap.size≤x:=q
   omega
end Go.Proofs.YthecngkdmnadoaaGreat

namespace Go.Proofs.YthecngkdmnadoaaGreat
open Go.RowKit
set_option maxRecDepth 100000
set_option maxHeartbeats 1000000 in
theorem sectors_z(z:Int)(w:World)(h0:0≤z)(h1:z≤140737488355328):Calls Tryz.prog 96 #[.int .i64 z] w fun e w'=>e = .returned (.int .i64 ((z+62)/63))∧w'=w:=by
 obtain⟨n,rfl⟩:∃n:Nat,z=(n:Int):=⟨z.toNat,by omega⟩;refine(sectors_any n w (by omega)).mono ?_;rintro e w' ⟨rfl,rfl⟩;exact⟨by congr 2,rfl⟩
def moreN(tl n:Nat):Int:=((tl:Int)+(n:Int)+62)/63-((tl:Int)+62)/63
def fitsE(d:DS)(tl n:Nat):Int:=if d.dead then 30 else if d.room-d.secs.length<moreN tl n then 32 else 0
set_option maxHeartbeats 1000000 in
theorem fits_any(N p b o:Nat)(d:DS)(fp:List Nat)(ta:Option Addr)(tl tc n:Nat)(w:World)(hd:DiskAt N w p d fp)(hc:w.cell? ⟨b,o+2,none⟩=some (.slice ta tl tc))(ht:tl≤1099511627776)(hn:n≤1099511627776):
 Calls Tryz.prog 75 #[.pointer (some ⟨b,o,none⟩),.pointer (some ⟨p,0,none⟩),.int .i64 (n:Int)] w fun e w'=>e = .returned (.int .i64 (fitsE d tl n))∧∃k,w'=w.drewN k:=by
 have HD:Hid (∀k,DiskAt N (w.drewN k) p d fp):=fun k=>hd.same fun _ _=>rfl
 clear hd;go_enter Tryz.func75,Tryz.ntmps75;go_wp2_with fail;go_quiet (first|(go_at_call 96;refine Calls.quiet_of_same (sectors_z _ _ (by omega) (by omega))));have hmo:((tl:Int)+(n:Int)+62)/63-((tl:Int)+62)/63=moreN tl n:=rfl;rw[hmo];obtain⟨mo,hmm⟩:∃mo,moreN tl n=mo:=⟨_,rfl⟩;rw[hmm];clear hmo;go_wp2_with fail;refine(Dead_any N p d fp _ (HD.out nq)).mono ?_;rintro e w1 ⟨rfl,rfl⟩;cases hdd:d.dead with
 |true=>
  have HE:Hid (fitsE d tl n=30):=by show _=_;unfold fitsE;rw[hdd];rfl
  clear hdd hmm;go_wp2_with fail;go_ret;exact⟨by rw[HE.out];rfl,_,rfl⟩
 |false=>
  have HE:Hid (fitsE d tl n=if d.room-d.secs.length<mo then 32 else 0):=by show _=_;unfold fitsE;rw[hdd,hmm];rfl
  clear hdd hmm;go_wp2_with fail;refine(Room_any N p d fp _ (HD.out nq)).mono ?_;rintro e w2 ⟨rfl,m,rfl⟩;obtain⟨rm,hrm⟩:∃rm,d.room-(d.secs.length:Int)=rm:=⟨_,rfl⟩;rw[hrm]at HE;rw[hrm];clear hrm;by_cases hlt:rm<mo
  · rw[if_pos hlt]at HE
    go_wp2_with fail;go_ret;exact⟨by rw[HE.out];rfl,_,rfl⟩
  · rw[if_neg hlt]at HE
    go_wp2_with fail;go_ret;exact⟨by rw[HE.out];rfl,_,rfl⟩
end Go.Proofs.YthecngkdmnadoaaGreat

namespace Go.Proofs.YthecngkdmnadoaaGreat
open Go.RowKit
set_option maxRecDepth 100000
theorem WalAt.seg{w:World}{b:Nat}{n:WN}{v:WV}(h:WalAt w b n v):SegAt w b 5 (walC n v) 83 n.area n.sector (.slice v.ta n.tail v.tc):=⟨by simp[walC],h⟩
theorem SegAt.wal{w:World}{b:Nat}{n:WN}{v:WV}{s:Nat}{ta:Option Addr}{tl tc:Nat}(h:SegAt w b 5 (walC n v) 83 n.area s (.slice ta tl tc)):WalAt w b { n with sector:=s,tail:=tl } { v with ta:=ta,tc:=tc }:=h.hb
def S5(b p:Nat)(W:World):Prop:=W.cell? ⟨b,0,none⟩=some (.pointer (some ⟨p,0,none⟩))
theorem S5.facts{b p:Nat}{W:World}(h:S5 b p W):W.cell? ⟨b,0,none⟩=some (.pointer (some ⟨p,0,none⟩)):=h
def LaidW(N b:Nat)(R:LayR)(fp:List Nat)(n:WN)(v:WV)(w w':World):Prop:=
 ∃fp' tv',DiskAt N w' v.p R.d fp'∧SegAt w' b 5 (walC n v) 83 n.area R.sector tv'∧(R.tail=none→tv' = .slice v.ta n.tail v.tc)∧(∀t,R.tail=some t→NewRow w.heap.size (b::fp') w' tv' t)∧Only (b::fp) w w'∧(∀k∈fp',k∈fp∨w.heap.size≤k)∧b∉fp'
theorem LaidW.s5{N b:Nat}{R:LayR}{fp:List Nat}{n:WN}{v:WV}{w w':World}(h:LaidW N b R fp n v w w'):S5 b v.p w':=by
 obtain⟨fp',tv',_,h2,_⟩:=h;unfold S5 World.cell?;rw[h2.hb];rfl
set_option maxHeartbeats 2000000 in
theorem extend_more(N b:Nat)(d:DS)(fp:List Nat)(n:WN)(v:WV)(tl x:List Nat)(xa:Option Addr)(xc:Nat)(w:World)(h:DiskAt N w v.p d fp)(hw:WalAt w b n v)(hbf:b∉fp)(ht:Row w.heap.size w (.slice v.ta n.tail v.tc) tl)(hx:Row w.heap.size w (.slice xa x.length xc) x)
 (hl1:tl.length<1024) (hl2:x.length<4096) (hN:N<274877906944) (hsec:n.sector≤1099511627776) (htl:n.tail=tl.length) (hwn:wantsN n.sector n.tail=false):
 Calls Tryz.prog 56 #[.pointer (some ⟨b,0,none⟩),.slice xa x.length xc] w fun e w'=>(¬fitsE d n.tail x.length=0∧e = .returned (.int .i64 (fitsE d n.tail x.length))∧∃k,w'=w.drewN k)∨(fitsE d n.tail x.length=0∧e = .returned (.int .i64 (layR d n.area n.sector (tl++x)).e)∧LaidW (N+(tl++x).length+1) b (layR d n.area n.sector (tl++x)) fp n v w w'):=by
 have HWA:Hid (Calls Tryz.prog 78 #[.pointer (some ⟨b,5,none⟩)] w fun e w'=>e = .returned (.bool false)∧w'=w):=hwn▸wants_any w b n v hw;have hc:=hw.cells;have HFI:Hid (∀k,Calls Tryz.prog 75 #[.pointer (some ⟨b,5,none⟩),.pointer (some ⟨v.p,0,none⟩),.int .i64 (x.length:Int)] (w.drewN k) fun e w'=>e = .returned (.int .i64 (fitsE d n.tail x.length))∧∃j,w'=(w.drewN k).drewN j):=fun k=>fits_any N v.p b 5 d fp v.ta n.tail v.tc x.length (w.drewN k) (h.same fun _ _=>rfl) hc.2.2.2.2.2.2.2.1 (by omega) (by omega)
 obtain⟨c0,c1,c2,c3,c4,c5,c6,c7,c8,c9,hz⟩:=hc;obtain⟨R,hR⟩:∃R,layR d n.area n.sector (tl++x)=R:=⟨_,rfl⟩;have HLA:Hid (∀k,Calls Tryz.prog 76 #[.pointer (some ⟨b,5,none⟩),.pointer (some ⟨v.p,0,none⟩),.slice xa x.length xc] (w.drewN k) fun e w'=>e = .returned (.int .i64 R.e)∧LaidW (N+(tl++x).length+1) b R fp n v w w'):=by
  intro k;refine(lay_any N v.p b 5 (walC n v) 83 n.area n.sector _ _ tl x d fp (w.drewN k) (h.same fun _ _=>rfl) (hw.seg.same rfl) hbf ht hx (by omega) (by omega) hN (by omega) hsec).mono ?_;rw[hR];rintro e w' ⟨rfl,fp',tv',a1,a2,a3,a4,a5,a6,a7⟩;exact⟨rfl,fp',tv',a1,a2,a3,a4,⟨a5.os,a5.tape,a5.output,a5.size,a5.block⟩,a6,a7⟩
 rw[hR];obtain⟨xl,hxl⟩:∃xl,x.length=xl:=⟨_,rfl⟩;obtain⟨fe,hfe⟩:∃fe,fitsE d n.tail x.length=fe:=⟨_,rfl⟩;rw[hfe]at HFI ⊢;rw[hxl]at HFI HLA;rw[hxl];obtain⟨p,hp⟩:∃p,v.p=p:=⟨_,rfl⟩;rw[hp]at c0 HFI HLA;clear c1 c2 c3 c4 c5 c6 c7 c8 c9 h hw ht hx hfe hR hxl;go_enter Tryz.func56,Tryz.ntmps56;go_wp2_with (go_at_call 78;refine HWA.out.mono ?_;rintro e w0 ⟨rfl,hw0⟩;subst w0);have hS0:∀k,S5 b p (w.drewN k):=fun _=>c0
 refine region_at (S:=S5 b p) 11 rfl (by kernel_rfl) (hS0 1) (fun _=>?_);refine tq4 S5.facts 0 15 1 16 2 17 3 18 ?_;simp only[sZa,sZb,sZc];refine tq4 S5.facts 4 19 5 20 6 21 7 22 ?_;simp only[sZa,sZb,sZc];refine tq S5.facts 8 23 ?_;simp only[sZa,sZb,sZc];refine one_call (i:=9) (w0:=w.drew) 24 75 #[.pointer (some ⟨b,5,none⟩),.pointer (some ⟨p,0,none⟩),.int .i64 (xl:Int)] (by kernel_rfl) rfl rfl (by rfl) (by kernel_rfl) ?_;refine(HFI.out 1).mono ?_;rintro e w1 ⟨rfl,j1,hw1⟩;obtain⟨k1,hk1⟩:∃k1,w1=w.drewN k1:=⟨1+j1,by rw[hw1,World.drewN_drewN]⟩;clear hw1;subst w1;refine⟨_,rfl,c0,fun _=>?_⟩;simp only[sZa,sZb,sZc];refine one_value (i:=10) (v := .int .i64 fe) (w':=w.drewN k1) 5 (by kernel_rfl) rfl rfl (by rfl) (by kernel_rfl) c0 (fun _=>?_);refine wpAnyH_done (by kernel_rfl) ?_ _;simp only[sZa,sZb,sZc];by_cases h0:fe=0
 · subst h0
   go_wp2_with fail;refine region_at (S:=S5 b p) 10 rfl (by kernel_rfl) c0 (fun _=>?_);refine tq4 S5.facts 0 28 1 29 2 30 3 31 ?_;simp only[sZa,sZb,sZc];refine tq4 S5.facts 4 32 5 33 6 34 7 35 ?_;simp only[sZa,sZb,sZc];refine one_call (i:=8) (w0:=w.drewN (k1+1)) 36 76 #[.pointer (some ⟨b,5,none⟩),.pointer (some ⟨p,0,none⟩),.slice xa xl xc] (by kernel_rfl) rfl rfl (by rfl) (by kernel_rfl) ?_;refine(HLA.out (k1+1)).mono ?_;rintro e w2 ⟨rfl,hlaid⟩;have hS2:S5 b p w2:=hp▸hlaid.s5;refine⟨_,rfl,hS2,fun _=>?_⟩;simp only[sZa,sZb,sZc];refine one_value (i:=9) (v := .int .i64 R.e) (w':=w2) 4 (by kernel_rfl) rfl rfl (by rfl) (by kernel_rfl) hS2 (fun _=>?_);refine wpAnyH_done (by kernel_rfl) ?_ _;simp only[sZa,sZb,sZc];go_wp2_with fail;go_ret;exact⟨rfl,by rw[←List.length_append];exact hlaid⟩
 · have h0b:(fe==0)=false:=by simpa using h0
   (have h0n:(fe != 0)=true:=by simpa using h0);go_wp2_with fail;go_ret;exact .inl ⟨h0,rfl,k1,rfl⟩
end Go.Proofs.YthecngkdmnadoaaGreat

namespace Go.Proofs.YthecngkdmnadoaaGreat
open Go.RowKit
set_option maxRecDepth 100000
theorem append_srun{w:World}{B:Nat}{v:Value}{l:List Sv}(x:Sv)(nb c:Nat)(hown:SOwn B w v l)(hx:w.cell? ⟨nb,0,none⟩=some (encS x))(hB:B≤w.heap.size)(h63:l.length<2199023255552)(ty:TypeId):
 ∃v' w',(Builtin.append_ #[80,80] ty #[v,.slice (some ⟨nb,0,none⟩) 1 c]).run Tryz.prog w = .ok v' w'∧SOwn B w' v' (l++[x])∧w.grownBy w' v.ownBlock:=by
 obtain⟨i0,hi,hz0,hz1,hz2⟩:=info_parts info_S;obtain⟨v',w',h1,h2,h3,_⟩:=run_append_own (P:=Tryz.prog) w B 80 ty 34 i0 _ 1 24 Tryz.underlying80 hi hz0 hz1 hz2 rfl (by decide) v l.length _ hown ⟨nb,0,none⟩ 1 c [encS x] rfl (fun j u hj=>by
  match j,hj with
  |0,hj=>simp at hj;rw[←hj];simpa[Addr.add]using hx
  |j+1,hj=>simp at hj) (by intro u hu;simp at hu;rw[hu];rfl) (by simp only[maxLen];omega) (by omega) hB
 refine⟨v',w',h1,?_,h3⟩;unfold SOwn;rw[List.length_append,List.map_append];exact h2
theorem append_s{W:World}{ops:Array Oper}{rest:List Oper}{o:Oper}{a:Act}{Q:Exit→Act→World→Prop}(hgd:o.guard=none)(s y:Operand)(x:Sv)(T:TypeId)
 (ho:o.op = .call { callee := .builtin .append,args:=#[s,y],argTypes:=#[80,80] }) (B nb c:Nat) (v:Value) (l:List Sv) (hs:a.eval s=v) (hown:SOwn B W v l) (hx:a.eval y = .slice (some ⟨nb,0,none⟩) 1 c) (hnb:nb=W.heap.size) (h63:l.length<2199023255552) (hB:B≤W.heap.size)
 (h:∀v' w',SOwn B w' v' (l++[x])→(W.alloc (.cells #[encS x] T)).grownBy w' v.ownBlock→wpList Tryz.prog ops Q rest (a.put o.dst v') w'):wpList Tryz.prog ops Q (o::rest) a (W.alloc (.cells #[encS x] T)):=by
 subst hnb;obtain⟨v',w',h1,h2,h3⟩:=append_srun (w:=W.alloc (.cells #[encS x] T)) x W.heap.size c (hown.same fun g _ _ _ _ hg=>alloc_old W _ hg) (by simp) (by simp;omega) h63 o.type;refine wpList_plain hgd fun _ hK=>?_
 unfold Oper.wp execOp;simp only[ho,resolve,invoke,builtin,Sem.run_bind,Sem.run_pure,Result.andThen_ok,List.map_toArray,List.map_cons,List.map_nil,hs,hx,h1];exact hK _ _ (h v' w' h2 h3)
theorem exec_append_s{o:Oper}{ev:Operand→Value}{w:World}{B:Nat}{v:Value}{l:List Sv}(x:Sv)(nb c:Nat)(s y:Operand)(ho:o.op = .call { callee := .builtin .append,args:=#[s,y],argTypes:=#[80,80] })(hs:ev s=v)(hy:ev y = .slice (some ⟨nb,0,none⟩) 1 c)
 (hown:SOwn B w v l) (hx:w.cell? ⟨nb,0,none⟩=some (encS x)) (hB:B≤w.heap.size) (h63:l.length<2199023255552):
 ∃v' w',(execOp ev o).run Tryz.prog w = .ok (.value v') w'∧SOwn B w' v' (l++[x])∧w.grownBy w' v.ownBlock:=by
 obtain⟨v',w',h1,h2,h3⟩:=append_srun x nb c hown hx hB h63 o.type;exact⟨v',w',exec_append_run s y _ ho hs hy h1,h2,h3⟩
end Go.Proofs.YthecngkdmnadoaaGreat

namespace Go.Proofs.YthecngkdmnadoaaGreat
open Go.RowKit
set_option maxRecDepth 100000
structure LG where
 d:DS
 first:Nat
 next:Nat
 area:Nat
 sector:Nat
 adrift:Bool
 fault:Int
 l:List Pl
 L:List (List Nat)
 tl:List Nat
def LG.n(g:LG):WN:=⟨g.first,g.L.length,g.next,g.area,g.sector,g.tl.length,g.adrift,g.fault⟩
def beginG(g:LG)(ix:Nat)(x:List Nat):Int×LG:=
 if g.next=1152921504606846976 then (51,g)
 else if ¬fitsE g.d 0 (uw ix++x).length=0 then (fitsE g.d 0 (uw ix++x).length,g)
 else if ¬stepE g.d=0 then (stepE g.d,{ g with d:=syD g.d g.area })
 else if ¬(layR (syD g.d g.area) (4*g.next+1) 0 (uw ix++x)).e=0 then ((layR (syD g.d g.area) (4*g.next+1) 0 (uw ix++x)).e,{ g with d:=(layR (syD g.d g.area) (4*g.next+1) 0 (uw ix++x)).d })
 else if ¬(ffR (layR (syD g.d g.area) (4*g.next+1) 0 (uw ix++x)).d ((4*g.next+1:Nat):Int) ix g.l).1=0 then ((ffR (layR (syD g.d g.area) (4*g.next+1) 0 (uw ix++x)).d ((4*g.next+1:Nat):Int) ix g.l).1,{ g with d:=(ffR (layR (syD g.d g.area) (4*g.next+1) 0 (uw ix++x)).d ((4*g.next+1:Nat):Int) ix g.l).2 })
 else (0,{ g with d:=(ffR (layR (syD g.d g.area) (4*g.next+1) 0 (uw ix++x)).d ((4*g.next+1:Nat):Int) ix g.l).2,area:=4*g.next+1,sector:=(layR (syD g.d g.area) (4*g.next+1) 0 (uw ix++x)).sector,tl:=(layR (syD g.d g.area) (4*g.next+1) 0 (uw ix++x)).tail.getD [],l:=keepQ ix g.l++[(g.next,ix)],next:=g.next+1,adrift:=false })
def extG(g:LG)(x:List Nat):Int×LG:=
 if wantsN g.sector g.tl.length=true then beginG g (g.first+g.L.length) x
 else if ¬fitsE g.d g.tl.length x.length=0 then (fitsE g.d g.tl.length x.length,g)
 else ((layR g.d g.area g.sector (g.tl++x)).e,{ g with d:=(layR g.d g.area g.sector (g.tl++x)).d,sector:=(layR g.d g.area g.sector (g.tl++x)).sector,tl:=(layR g.d g.area g.sector (g.tl++x)).tail.getD g.tl })
def keepG(r:Int×LG):Int×LG:=if r.1=51 then r else (r.1,{ r.2 with fault:=r.1 })
theorem layF_some(a:Nat):∀(f:Nat) (d:DS) (s:Nat) (left:List Nat),(layF a f d s left).e=0→∃t,(layF a f d s left).tail=some t
 |0,_,_,left,_=>⟨left,rfl⟩
 |f+1,d,s,left,h=>by
  by_cases h63:63≤left.length
  · by_cases he:wrE d a s (63::left.take 63)=0
    · rw[layF_go h63 he]at h ⊢
      exact layF_some a f _ _ _ h
    · rw[layF_bad h63 he]at h
      exact absurd h he
  · by_cases h0:left=[]
    · subst h0
      rw[layF_nil];exact⟨_,rfl⟩
    · rw[layF_end h63 h0]
      exact⟨_,rfl⟩
def logF(b:Nat)(v:WV)(fp:List Nat):List Nat:=b::(ownB v.ra++(ownB v.pa++fp))
structure LogAt(N:Nat)(w:World)(b:Nat)(g:LG)(v:WV)(fp:List Nat)(s:List Sv):Prop where
 disk:DiskAt N w v.p g.d fp
 wal:WalAt w b g.n v
 pl:QOwn 0 w (.slice v.pa v.pn v.pc) g.l
 recs:SOwn 0 w (.slice v.ra g.L.length v.rc) s
 rows:∀(i:Nat) (x:Sv) (xs:List Nat),s[i]?=some x→g.L[i]?=some xs→RowX (logF b v fp) w (encS x) xs
 tail:RowX (logF b v fp) w (.slice v.ta g.tl.length v.tc) g.tl
 bf:b∉fp
 paf:∀x∈ownB v.pa,x∉fp∧x≠b
 raf:∀x∈ownB v.ra,x∉fp∧x≠b∧x∉ownB v.pa
theorem LogAt.len{N:Nat}{w:World}{b:Nat}{g:LG}{v:WV}{fp:List Nat}{s:List Sv}(h:LogAt N w b g v fp s):s.length=g.L.length∧v.pn=g.l.length:=by
 constructor
 · obtain⟨ad,cap,e⟩:=h.recs.shape
   simp only[Value.slice.injEq]at e;exact e.2.1.symm
 · obtain⟨ad,cap,e⟩:=h.pl.shape
   simp only[Value.slice.injEq]at e;exact e.2.1
theorem LogAt.lt{N:Nat}{w:World}{b:Nat}{g:LG}{v:WV}{fp:List Nat}{s:List Sv}(h:LogAt N w b g v fp s):∀x∈logF b v fp,x<w.heap.size:=by
 intro x hx;unfold logF at hx;simp only[List.mem_cons,List.mem_append]at hx;rcases hx with rfl|h1|h1|h1
 · exact h.wal.lt
 · exact h.recs.lt x h1
 · exact QOwn.ltB h.pl x h1
 · exact h.disk.lt x h1
theorem RowX.step{F F':List Nat}{w w':World}{v:Value}{xs:List Nat}(h:RowX F w v xs)(ho:Only F w w')(hs:∀k∈F',k∈F∨w.heap.size≤k):RowX F' w' v xs:=by
 have h1:=(h.mono (fp':=F++F') (fun x hx=>by
  rcases List.mem_append.1 hx with h|h
  · exact .inl h
  · exact hs x h)).only (ho.wider (fun x hx=>List.mem_append_left _ hx))
 exact⟨h1.1,fun b off len cap e h0 hb=>h1.2 b off len cap e h0 (List.mem_append_right _ hb)⟩
def LogSays(N b:Nat)(r:Int×LG)(v:WV)(fp:List Nat)(w:World)(e:Ending)(w':World):Prop:=
 e = .returned (.int .i64 r.1)∧∃v' fp' s',LogAt N w' b r.2 v' fp' s'∧v'.p=v.p∧Only (logF b v fp) w w'∧∀k∈logF b v' fp',k∈logF b v fp∨w.heap.size≤k
theorem LogAt.below{N:Nat}{w w':World}{b:Nat}{g:LG}{v:WV}{fp:List Nat}{s:List Sv}(h:LogAt N w b g v fp s)(hb:Below w.heap.size w w'):LogAt N w' b g v fp s:=by
 have ho:Only (logF b v fp) w w':=Only.of_below hb;exact⟨h.disk.below hb,h.wal.below h.wal.lt hb,h.pl.below hb,h.recs.same (fun g _ _ _ _ hg=>hb.block g hg),fun i x xs h1 h2=>(h.rows i x xs h1 h2).step ho (fun k hk => .inl hk),h.tail.step ho (fun k hk => .inl hk),h.bf,h.paf,h.raf⟩
theorem LogAt.more{N M:Nat}{w:World}{b:Nat}{g:LG}{v:WV}{fp:List Nat}{s:List Sv}(h:LogAt N w b g v fp s)(hm:N≤M):LogAt M w b g v fp s:=⟨h.disk.mono hm,h.wal,h.pl,h.recs,h.rows,h.tail,h.bf,h.paf,h.raf⟩
theorem LogAt.turn{N M:Nat}{w w':World}{b:Nat}{g:LG}{v:WV}{fp fp':List Nat}{s:List Sv}{d:DS}(h:LogAt N w b g v fp s)(ho:Only fp w w')(hd:DiskAt M w' v.p d fp')(hs:∀k∈fp',k∈fp∨w.heap.size≤k):LogAt M w' b { g with d:=d } v fp' s:=by
 have hoF:Only (logF b v fp) w w':=ho.wider (fun x hx=>by simp[logF,hx]);have hsub:∀k∈logF b v fp',k∈logF b v fp∨w.heap.size≤k:=fun k hk=>by
  unfold logF at hk ⊢;simp only[List.mem_cons,List.mem_append]at hk ⊢;rcases hk with h1|h1|h1|h1
  · exact .inl (.inl h1)
  · exact .inl (.inr (.inl h1))
  · exact .inl (.inr (.inr (.inl h1)))
  · exact(hs k h1).imp (fun h => .inr (.inr (.inr h))) id
 have hbl:=h.wal.lt;refine⟨hd,(ho.block b hbl h.bf).trans h.wal,h.pl.only ho (fun ad n c e=>?_),h.recs.only ho (fun x hx=>(h.raf x hx).1),fun i x xs h1 h2=>(h.rows i x xs h1 h2).step hoF hsub,h.tail.step hoF hsub,fun hb=>?_,fun x hx=>⟨fun hf=>?_,(h.paf x hx).2⟩,fun x hx=>⟨fun hf=>?_,(h.raf x hx).2⟩⟩
 · simp only[Value.slice.injEq]at e
   rw[←e.1];exact fun x hx=>(h.paf x hx).1
 · rcases hs b hb with h1|h1
   · exact h.bf h1
   · omega
 · rcases hs x hf with h1|h1
   · exact(h.paf x hx).1 h1
   · have:=QOwn.ltB h.pl x hx;omega
 · rcases hs x hf with h1|h1
   · exact(h.raf x hx).1 h1
   · have:=h.recs.lt x hx;omega
end Go.Proofs.YthecngkdmnadoaaGreat
