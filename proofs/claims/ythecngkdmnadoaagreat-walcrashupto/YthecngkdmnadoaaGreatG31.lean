/- Texts that were written apart, joined. -/
import Derived.Shelf.Lay
import Derived.Shelf.Bytes.SlClone
import Derived.Ground.SlbCloneProg
import Derived.Test.YthecngkdmnadoaaGreatG00
import Derived.Test.YthecngkdmnadoaaGreatG30
namespace Go.Proofs.YthecngkdmnadoaaGreat
open Go.RowKit Go.Shelf
set_option maxRecDepth 100000
shelf_lay SlLaysK.n4 Slk 4 at Tryz as cloneB
theorem cloneB_any(N:Nat)(v:Value)(xs:List Nat)(w:World)(hr:Row N w v xs)(hl:xs.length≤140737488355328):
 Calls Tryz.prog 58 #[v] w fun e w'=>Below w.heap.size w w'∧((xs=[]∧e = .returned (.slice none 0 0))∨∃g cap,e = .returned (.slice (some ⟨g,0,none⟩) xs.length cap)∧xs.length≤cap∧w.heap.size≤g∧g<w'.heap.size∧∀i,i<xs.length→w'.cell? ⟨g,0+i,none⟩=some (bv (xs.getD i 0))):=by
 obtain⟨ao,c,rfl,hcap,hno,hc⟩:=hr;cases ao with
 |none=>
  have e:xs=[]:=by
   cases xs with
   |nil=>rfl
   |cons y r=>obtain⟨b,off,e,_⟩:=hc (by simp);cases e
  subst e;have hcall:Calls Tryz.prog 58 #[.slice none 0 c] w fun e w'=>e = .returned (.slice none 0 0)∧w'=w:=Any.bytes_Clone_nil cloneB 0 c w
  refine hcall.mono ?_;rintro e w' ⟨rfl,rfl⟩;exact⟨Below.refl _ _,.inl ⟨rfl,rfl⟩⟩
 |some a=>
  have hcall:Calls Tryz.prog 58 #[.slice (some a) xs.length c] w fun e w'=>∃v',e = .returned v'∧w'.ownsRow w.heap.size 5 1 v' xs.length ((xs.map Int.ofNat).map (Value.int .u8))∧v' ≠ .slice none 0 0∧Below w.heap.size w w':=
   Any.bytes_Clone_at cloneB a xs.length c (xs.map Int.ofNat) w (by simp) hl (fun i hi=>by
    obtain⟨b,off,e2,_,hc2⟩:=hc (by omega);obtain rfl:=Option.some.inj e2;(have hadd:(⟨b,off,none⟩:Addr).add i=⟨b,off+i,none⟩:=by unfold Addr.add;split<;>simp_all);rw[hadd,hc2 i hi];simp[List.getD_eq_getElem?_getD,List.getElem?_eq_getElem hi])
  refine hcall.mono ?_;rintro e w' ⟨v',rfl,⟨k1,⟨e1,_⟩|⟨g,cap,cur,rfl,hg,hb2,k2,k3,k4,k5⟩⟩,hne,hbw⟩
  · exact absurd e1 hne
  · refine⟨hbw,.inr ⟨g,cap,rfl,k2,hg,(Array.getElem?_eq_some_iff.1 hb2).1,fun i hi=>?_⟩⟩
    have e2:((xs.map Int.ofNat).map (Value.int .u8))[i]?=some (bv (xs.getD i 0)):=by
     simp[List.getElem?_eq_getElem hi,List.getD_eq_getElem?_getD]
    rw[←k5,List.getElem?_take,if_pos (by omega)]at e2;rw[Nat.zero_add];simpa[World.cell?,hb2]using e2
end Go.Proofs.YthecngkdmnadoaaGreat

namespace Go.Proofs.YthecngkdmnadoaaGreat
open Go.RowKit
set_option maxRecDepth 100000
theorem cloneS_any(N:Nat)(v:Value)(xs:List Nat)(w:World)(fp:List Nat)(hr:Row N w v xs)(hl:xs.length≤140737488355328)(hf:∀k∈fp,k<w.heap.size):
 Calls Tryz.prog 58 #[v] w fun e w'=>∃sv:Sv,e = .returned (encS sv)∧Below w.heap.size w w'∧RowX fp w' (encS sv) xs:=by
 refine(cloneB_any N v xs w hr hl).mono ?_;rintro e w' ⟨hb,⟨rfl,rfl⟩|⟨g,cap,rfl,h1,h2,h3,h4⟩⟩
 · exact⟨(none,0,0),rfl,hb,⟨none,0,rfl,Nat.le_refl _,fun _=>rfl,fun h=>by simp at h⟩,fun b off len cap e=>by cases e⟩
 · refine⟨(some ⟨g,0,none⟩,xs.length,cap),rfl,hb,⟨some ⟨g,0,none⟩,cap,rfl,h1,(fun h=>by cases h),fun _=>⟨g,0,rfl,h3,h4⟩⟩,fun b off len cap e _ hm=>?_⟩
   simp only[encS,Value.slice.injEq,Option.some.injEq,Addr.mk.injEq]at e;have:=hf b hm;omega
theorem LogAt.cells{N:Nat}{w:World}{b:Nat}{g:LG}{v:WV}{fp:List Nat}{s:List Sv}(h:LogAt N w b g v fp s):
 w.cell? ⟨b,0,none⟩=some (.pointer (some ⟨v.p,0,none⟩))∧w.cell? ⟨b,1,none⟩=some (.int .u64 (g.first:Int))∧w.cell? ⟨b,2,none⟩=some (.slice v.ra g.L.length v.rc)∧w.cell? ⟨b,3,none⟩=some (.slice v.pa v.pn v.pc)∧w.cell? ⟨b,4,none⟩=some (.int .u64 (g.next:Int))∧w.cell? ⟨b,5,none⟩=some (.int .u64 (g.area:Int))∧w.cell? ⟨b,6,none⟩=some (.int .i64 (g.sector:Int))∧w.cell? ⟨b,7,none⟩=some (.slice v.ta g.tl.length v.tc)∧w.cell? ⟨b,8,none⟩=some (.bool g.adrift)∧w.cell? ⟨b,9,none⟩=some (.int .i64 g.fault)∧(∀o,w.frozen? ⟨b,o,none⟩=false):=h.wal.cells
theorem LogAt.own{N:Nat}{w w':World}{b:Nat}{g g':LG}{v:WV}{fp:List Nat}{s:List Sv}(h:LogAt N w b g v fp s)(ho:Only [b] w w')(hw:WalAt w' b g'.n v)(h1:g'.d=g.d)(h2:g'.l=g.l)(h3:g'.L=g.L)(h4:g'.tl=g.tl):LogAt N w' b g' v fp s:=by
 have hoF:Only (logF b v fp) w w':=ho.wider (fun k hk=>by simp[logF,List.mem_singleton.1 hk]);have hp:QOwn 0 w' (.slice v.pa v.pn v.pc) g.l:=h.pl.only ho (fun ad n c e k hk hm=>by
  simp only[Value.slice.injEq]at e;rw[←e.1]at hk;exact(h.paf k hk).2 (List.mem_singleton.1 hm))
 refine⟨by rw[h1];exact h.disk.apart ho (fun k hk hm=>h.bf (List.mem_singleton.1 hm▸hk)),hw,by rw[h2];exact hp,by rw[h3];exact h.recs.only ho (fun k hk hm=>(h.raf k hk).2.1 (List.mem_singleton.1 hm)),fun i x xs q1 q2=>(h.rows i x xs q1 (h3▸q2)).step hoF (fun k hk => .inl hk),by rw[h4];exact h.tail.step hoF (fun k hk => .inl hk),h.bf,h.paf,h.raf⟩
theorem keepL_any(N b:Nat)(g:LG)(v:WV)(fp:List Nat)(s:List Sv)(e:Int)(w:World)(h:LogAt N w b g v fp s):
 Calls Tryz.prog 48 #[.pointer (some ⟨b,0,none⟩),.int .i64 e] w fun x w'=>x = .returned (.int .i64 e)∧LogAt N w' b (keepG (e,g)).2 v fp s∧Only [b] w w':=by
 refine(keep_any w b g.n v e h.wal).mono ?_;rintro x w' ⟨rfl,hw⟩;by_cases he:e=51
 · rw[if_pos he]at hw
   subst hw;(have e1:(keepG (e,g)).2=g:=by unfold keepG;rw[if_pos he]);rw[e1];exact⟨rfl,h,Only.refl _ _⟩
 · rw[if_neg he]at hw
   subst hw;(have e1:(keepG (e,g)).2={ g with fault:=e }:=by unfold keepG;rw[if_neg he]);rw[e1];have ho:Only [b] w (w.setCell ⟨b,9,none⟩ (.int .i64 e)):=(Only.refl [b] w).setCell (by simp) _ _;exact⟨rfl,h.own ho (h.wal.fault e) rfl rfl rfl rfl,ho⟩
theorem keepG_e(r:Int×LG):(keepG r).1=r.1:=by unfold keepG;split<;>rfl
theorem app_made{N:Nat}{w5 w6 w12:World}{b:Nat}{g:LG}{v:WV}{fp:List Nat}{s:List Sv}{x:List Nat}{sv:Sv}{a9:Option Addr}{c9:Nat}(h:LogAt N w5 b g v fp s)(hb6:Below w5.heap.size w5 w6)(hsv:RowX (logF b v fp) w6 (encS sv) x)
 (h12:Only (b::ownB v.ra) w6 w12) (hw:WalAt w12 b ({ g with L:=g.L++[x] }:LG).n { v with ra:=a9,rc:=c9 }) (hso:SOwn 0 w12 (.slice a9 (g.L.length+1) c9) (s++[sv])) (ha:∀k∈ownB a9,k∈ownB v.ra∨w6.heap.size≤k):
 LogAt N w12 b { g with L:=g.L++[x] } { v with ra:=a9,rc:=c9 } fp (s++[sv])∧Only (logF b v fp) w5 w12∧∀k∈logF b { v with ra:=a9,rc:=c9 } fp,k∈logF b v fp∨w5.heap.size≤k:=by
 have hsz:=hb6.size;have hlt:=h.lt;have hsub6:∀k∈logF b { v with ra:=a9,rc:=c9 } fp,k∈logF b v fp∨w6.heap.size≤k:=fun k hk=>by
  unfold logF at hk ⊢;simp only[List.mem_cons,List.mem_append]at hk ⊢;rcases hk with h1|h1|h1|h1
  · exact .inl (.inl h1)
  · exact(ha k h1).imp (fun h => .inr (.inl h)) id
  · exact .inl (.inr (.inr (.inl h1)))
  · exact .inl (.inr (.inr (.inr h1)))
 have hsub:∀k∈logF b { v with ra:=a9,rc:=c9 } fp,k∈logF b v fp∨w5.heap.size≤k:=fun k hk=>(hsub6 k hk).imp id (fun h=>by omega)
 have h12F:Only (logF b v fp) w6 w12:=h12.wider (fun k hk=>by
  simp only[List.mem_cons]at hk;rcases hk with h1|h1<;>simp[logF,h1])
 have hoF:Only (logF b v fp) w5 w12:=(Only.of_below hb6).then h12F (fun _ h=>h);have h6:=h.below hb6;have hlen:=h.len.1;refine⟨⟨h6.disk.apart h12 (fun k hk hm=>?_),hw,h6.pl.only h12 (fun ad n c e k hk hm=>?_),by rw[List.length_append];exact hso,fun i y xs h1 h2=>?_,h.tail.step hoF hsub,h.bf,fun k hk=>h.paf k hk,fun k hk=>?_⟩,hoF,hsub⟩
 · simp only[List.mem_cons]at hm
   rcases hm with rfl|h1
   · exact h.bf hk
   · exact(h.raf k h1).1 hk
 · simp only[Value.slice.injEq]at e
   rw[←e.1]at hk;simp only[List.mem_cons]at hm;rcases hm with rfl|h1
   · exact(h.paf k hk).2 rfl
   · exact(h.raf k h1).2.2 hk
 · by_cases hi:i<s.length
   · rw[List.getElem?_append_left hi]at h1
     rw[List.getElem?_append_left (by omega)]at h2;exact(h.rows i y xs h1 h2).step hoF hsub
   · have hl:=(List.getElem?_eq_some_iff.1 h1).1
     rw[List.length_append,List.length_singleton]at hl;(have hi2:i=s.length:=by omega);subst hi2;rw[List.getElem?_append_right (Nat.le_refl _),Nat.sub_self]at h1;rw[List.getElem?_append_right (by omega),show s.length-g.L.length=0 by omega]at h2;simp only[List.getElem?_cons_zero,Option.some.injEq]at h1 h2;subst h1;subst h2;exact hsv.step h12F hsub6
 · rcases ha k hk with h1|h1
   · exact h.raf k h1
   · exact⟨fun hm=>by have:=h6.disk.lt k hm;omega,fun e=>by have:=h6.wal.lt;omega,fun hm=>by have:=QOwn.ltB h6.pl k hm;omega⟩
def appG(g:LG)(x:List Nat):Int×LG:=
 if ¬g.fault=0 then (g.fault,g)
 else if 512<x.length then (50,g)
 else if g.first+g.L.length=4611686018427387904 then (51,g)
 else if ¬(extG g (uw x.length++x)).1=0 then ((extG g (uw x.length++x)).1,(keepG (extG g (uw x.length++x))).2)
 else (0,{ (keepG (extG g (uw x.length++x))).2 with L:=(keepG (extG g (uw x.length++x))).2.L++[x] })
end Go.Proofs.YthecngkdmnadoaaGreat

namespace Go.Proofs.YthecngkdmnadoaaGreat
open Go.RowKit
set_option maxRecDepth 100000
theorem beginG_L(g:LG)(ix:Nat)(x:List Nat):(beginG g ix x).2.L=g.L:=by
 unfold beginG
 repeat' split
 all_goals rfl
theorem extG_L(g:LG)(x:List Nat):(extG g x).2.L=g.L:=by
 unfold extG
 split
 · exact beginG_L _ _ _
 · split<;>rfl
theorem keepG_L(r:Int×LG):(keepG r).2.L=r.2.L:=by unfold keepG;split<;>rfl
theorem LogSays.pre{N b:Nat}{r:Int×LG}{v:WV}{fp:List Nat}{w w1:World}{e:Ending}{w':World}(h:LogSays N b r v fp w1 e w')(ho:Only (logF b v fp) w w1):LogSays N b r v fp w e w':=by
 obtain⟨h1,v',fp',s',h2,h3,h4,h5⟩:=h;exact⟨h1,v',fp',s',h2,h3,ho.then h4 (fun _ h=>h),fun k hk=>(h5 k hk).imp id (fun h=>Nat.le_trans ho.size h)⟩
theorem LogSays.mono{N M b:Nat}{r:Int×LG}{v:WV}{fp:List Nat}{w:World}{e:Ending}{w':World}(h:LogSays N b r v fp w e w')(hm:N≤M):LogSays M b r v fp w e w':=by
 obtain⟨h1,v',fp',s',h2,h3,h4,h5⟩:=h;exact⟨h1,v',fp',s',h2.more hm,h3,h4,h5⟩
theorem LogAt.stays{N M b:Nat}{e:Int}{g:LG}{v:WV}{fp:List Nat}{s:List Sv}{w w':World}(h:LogAt N w b g v fp s)(hb:Below w.heap.size w w')(hm:N≤M):LogSays M b (e,g) v fp w (.returned (.int .i64 e)) w':=
 ⟨rfl,v,fp,s,(h.below hb).more hm,rfl,Only.of_below hb,fun _ hk => .inl hk⟩
set_option maxHeartbeats 2000000 in
theorem App_any(N b:Nat)(g:LG)(v:WV)(fp:List Nat)(s:List Sv)(x:List Nat)(xv:Value)(w:World)(h:LogAt N w b g v fp s)(hx:RowX (logF b v fp) w xv x)(hok:LOk g)(hN:N<137438953472)(hl:x.length≤1099511627776):
 Calls Tryz.prog 28 #[.pointer (some ⟨b,0,none⟩),xv] w (LogSays (N+600+g.tl.length+g.l.length+48) b (appG g x) v fp w):=by
 obtain⟨xa,xc,rfl,_⟩:=hx.1.shape;have hrecs:=hok.recs;have hlast:=hok.last;obtain⟨c0,c1,c2,c3,c4,c5,c6,c7,c8,c9,hz⟩:=h.cells;clear c0 c1 c2 c3 c4 c5 c6 c7 c8 hz;have HL:Hid (LogAt N w b g v fp s):=h;have HX:Hid (RowX (logF b v fp) w (.slice xa x.length xc) x):=hx;have HOK:Hid (LOk g):=hok
 have HE:Hid (∀W,W.heap=w.heap→Calls Tryz.prog 55 #[.pointer (some ⟨b,0,none⟩)] W fun e w'=>e = .returned (.int .u64 ((g.first+g.L.length:Nat):Int))∧∃k,w'=W.drewN k):=fun W hW=>
  wend_any W b g.n v (show W.heap[b]?=_ by rw[hW];exact HL.out.wal) (show g.first+g.L.length<_ by omega) (show g.L.length≤_ by omega)
 clear h hx hok;by_cases hf:g.fault=0
 · rw[hf]at c9
   have HF:Hid (g.fault=0):=hf;clear hf;by_cases h5:512<x.length
   · have h5z:(512:Int)<(x.length:Int):=by omega
     (have hg:appG g x=(50,g):=by unfold appG;rw[if_neg (by simp[HF.out]),if_pos h5]);rw[hg];clear h5 hg;go_enter Tryz.func28,Tryz.ntmps28;go_wp2_with fail;go_ret;refine HL.out.stays (Below.refl _ _) ?_;omega
   · have h5z:¬(512:Int)<(x.length:Int):=by omega
     have H5:Hid (¬512<x.length):=h5;by_cases h6:g.first+g.L.length=4611686018427387904
     · have hg:appG g x=(51,g):=by unfold appG;rw[if_neg (by simp[HF.out]),if_neg H5.out,if_pos h6]
       rw[hg];rw[h6]at HE;clear h5 hg;go_enter Tryz.func28,Tryz.ntmps28;go_wp2_with (first|(go_at_call 55;refine(HE.out _ rfl).mono ?_;rintro e w0 ⟨rfl,k0,rfl⟩));go_ret;refine HL.out.stays (belowN (Below.refl _ _) _) ?_;omega
     · obtain⟨m,hm⟩:∃m,g.first+g.L.length=m:=⟨_,rfl⟩
       (have hmz:((m:Int)==4611686018427387904)=false:=by rw[hm]at h6;simpa using(by omega:¬(m:Int)=4611686018427387904));rw[hm]at HE;have H6:Hid (¬g.first+g.L.length=4611686018427387904):=h6;obtain⟨T,hT⟩:∃T,uw x.length++x=T:=⟨_,rfl⟩;have HT:Hid (uw x.length++x=T):=hT;(have hTl:T.length≤522∧T.length≤x.length+10:=by have:=uw_len10 (n:=x.length) (by omega);rw[←hT,List.length_append];omega);obtain⟨re,rg,hr⟩:∃re rg,extG g T=(re,rg):=⟨_,_,rfl⟩;have HR:Hid (extG g T=(re,rg)):=hr;(have HRL:Hid (rg.L=g.L):=by have:=extG_L g T;rw[hr]at this;exact this);have HP:Hid (∀W,W.heap=w.heap→Calls Tryz.prog 57 #[.slice none 0 0,.slice xa x.length xc] W fun e w'=>∃v',e = .returned v'∧Bytes W.heap.size w' v' T∧Below W.heap.size W w'):=fun W hW=>by
        have hro:Row W.heap.size W (.slice xa x.length xc) x:=((HX.out.same (w':=W) hW)).1;have:=PutBytes_any W.heap.size W.heap.size (.slice none 0 0) (.slice xa x.length xc) [] x W (Bytes.nil _ _) (Nat.le_refl _) hro (Nat.le_refl _) (by simp;omega);rw[List.nil_append,hT]at this;exact this
       have HEX:Hid (∀W yv,LogAt N W b g v fp s→Row W.heap.size W yv T→Calls Tryz.prog 56 #[.pointer (some ⟨b,0,none⟩),yv] W (LogSays (N+T.length+g.tl.length+g.l.length+16) b (re,rg) v fp W)):=fun W yv h1 h2=>by
        have:=ext_any N b g v fp s T yv W h1 h2 HOK.out hN (by omega);rw[hr]at this;exact this
       clear h5 h6 hm hr hT;go_enter Tryz.func28,Tryz.ntmps28
       go_wp2_with (first
        |(go_at_call 55;refine(HE.out _ rfl).mono ?_;rintro e w0 ⟨rfl,k0,rfl⟩)
        |(go_at_call 57;refine(HP.out (w.drewN k0) rfl).mono ?_;rintro e w1 ⟨v1,rfl,ho1,hb1⟩;have H1:Hid (Bytes w.heap.size w1 v1 T∧Below w.heap.size w w1):=⟨ho1,⟨hb1.os,hb1.tape,hb1.output,hb1.size,hb1.block⟩⟩;clear ho1 hb1 HP)
        |(go_at_call 56;refine(HEX.out _ _ (HL.out.below H1.out.2) H1.out.1.row).mono ?_;rintro e w2 ⟨rfl,v2,fp2,s2,hL2,hp2,ho2,hs2⟩;have H2:Hid (LogAt (N+T.length+g.tl.length+g.l.length+16) w2 b rg v2 fp2 s2∧v2.p=v.p∧Only (logF b v fp) w1 w2∧∀k∈logF b v2 fp2,k∈logF b v fp∨w1.heap.size≤k):=⟨hL2,hp2,ho2,hs2⟩;clear hL2 hp2 ho2 hs2 HEX))
       refine(keepL_any _ b rg v2 fp2 s2 re w2 H2.out.1).mono ?_;rintro e w3 ⟨rfl,hL3,ho3⟩;obtain⟨kg,hkg⟩:∃kg,(keepG (re,rg)).2=kg:=⟨_,rfl⟩;have HKG:Hid ((keepG (re,rg)).2=kg):=hkg;(have hkL:kg.L=g.L:=by rw[←hkg,keepG_L];exact HRL.out);rw[hkg]at hL3;have hO3:Only (logF b v fp) w w3:=((Only.of_below H1.out.2).then H2.out.2.2.1 (fun _ h=>h)).then ho3 (fun k hk=>by simp[logF,List.mem_singleton.1 hk]);have H3:Hid (LogAt (N+T.length+g.tl.length+g.l.length+16) w3 b kg v2 fp2 s2∧Only (logF b v fp) w w3∧(∀k∈logF b v2 fp2,k∈logF b v fp∨w.heap.size≤k)∧kg.L=g.L):=⟨hL3,hO3,fun k hk=>(H2.out.2.2.2 k hk).imp id (fun h=>Nat.le_trans H1.out.2.size h),hkL⟩;clear hL3 ho3 hO3 hkg hkL;by_cases h0:re=0
       · subst h0
         obtain⟨-,-,c2,-,-,-,-,-,-,-,-⟩:=H3.out.1.cells;have hS3:w3.drew.cell? ⟨b,2,none⟩=some (.slice v2.ra kg.L.length v2.rc):=c2;clear c2;go_wp2_with fail;refine region_atE (S:=fun W=>W.cell? ⟨b,2,none⟩=some (.slice v2.ra kg.L.length v2.rc)) 12 11 rfl (by kernel_rfl) ?_;refine te4 id 0 33 1 34 2 35 3 36 ?_;simp only[sZa,sZb,sZc];refine te2 id 4 37 5 38 ?_;simp only[sZa,sZb,sZc];have hx3:RowX (logF b v2 fp2) w3 (.slice xa x.length xc) x:=HX.out.step H3.out.2.1 H3.out.2.2.1;refine one_callE (i:=6) (w0:=w3.drew) 39 58 #[.slice xa x.length xc] (by kernel_rfl) rfl rfl (by rfl) (by kernel_rfl) ?_;refine(cloneS_any w3.drew.heap.size _ x w3.drew (logF b v2 fp2) (hx3.same (w':=w3.drew) rfl).1 (by omega) H3.out.1.lt).mono ?_;rintro e w6 ⟨⟨sa,sn,sc⟩,rfl,hb6,hsv⟩;have hbl3:b<w3.heap.size:=H3.out.1.wal.lt;have hb36:Below w3.heap.size w3 w6:=⟨hb6.os,hb6.tape,hb6.output,hb6.size,hb6.block⟩;have H6w:Hid (Below w3.heap.size w3 w6∧RowX (logF b v2 fp2) w6 (encS (sa,sn,sc)) x):=⟨hb36,hsv⟩;have hS6:w6.cell? ⟨b,2,none⟩=some (.slice v2.ra kg.L.length v2.rc):=(hb36.cell (p:=⟨b,2,none⟩) hbl3).trans hS3;clear hb6 hsv hb36 hx3;have he:encS (sa,sn,sc) = .slice sa sn sc:=rfl;rw[he];clear he;refine⟨_,rfl,hS6,?_⟩;simp only[sZa,sZb,sZc];obtain⟨w7,hw7⟩:∃w7,w6.alloc (.cells #[.slice sa sn sc] 34)=w7:=⟨_,rfl⟩;(have hb7:Below w6.heap.size w6 w7:=by rw[←hw7];exact(Below.refl _ w6).alloc (Nat.le_refl _) _);(have hx7:w7.cell? ⟨w6.heap.size,0,none⟩=some (encS (sa,sn,sc)):=by rw[←hw7];simp[encS]);have hbl6:b<w6.heap.size:=Nat.lt_of_lt_of_le hbl3 H6w.out.1.size;have hS7:w7.cell? ⟨b,2,none⟩=some (.slice v2.ra kg.L.length v2.rc):=(hb7.cell (p:=⟨b,2,none⟩) hbl6).trans hS6;have H7:Hid (Below w6.heap.size w6 w7∧w7.cell? ⟨w6.heap.size,0,none⟩=some (encS (sa,sn,sc))∧LogAt (N+T.length+g.tl.length+g.l.length+16) w7 b kg v2 fp2 s2):=⟨hb7,hx7,(H3.out.1.below H6w.out.1).below hb7⟩;refine one_valueE (i:=7) (v := .slice (some ⟨w6.heap.size,0,none⟩) 1 1) (w':=w7) 40 (by kernel_rfl) rfl rfl (by rfl) (by rw[←hw7];go_simp;first|done|exact rfl) hS7 ?_;simp only[sZa,sZb,sZc];clear hw7 hb7 hx7 hS7 hS6 hS3 hbl6 hbl3;(have hsl:s2.length<1099511627776:=by have h1:=H3.out.1.len.1;have h2:=H3.out.2.2.2;rw[h2]at h1;omega);have hsn:s2.length=kg.L.length:=H3.out.1.len.1;refine one_rowE (i:=8) 41 (by kernel_rfl) rfl rfl (by rfl) (exec_append_s1 (sa,sn,sc) w6.heap.size 1 _ _ rfl rfl rfl H7.out.2.2.recs H7.out.2.1 hsl) ?_;rintro a9 c9 w9 ⟨hq9,ho9,ha9⟩;rw[hsn]at hq9 ⊢;have hw9:WalAt w9 b kg.n v2:=(ho9.block b H7.out.2.2.wal.lt (fun hm=>(H7.out.2.2.raf b hm).2.1 rfl)).trans H7.out.2.2.wal;obtain⟨-,-,q2,-,-,-,-,-,-,-,qz⟩:=hw9.cells;have q2':w9.cell? ⟨b,2,none⟩=some (.slice v2.ra kg.L.length v2.rc):=q2;clear q2;refine⟨q2',?_⟩;simp only[sZa,sZb,sZc];refine one_valueE (i:=9) (v := .pointer (some ⟨b,0,none⟩)) (w':=w9) 42 (by kernel_rfl) rfl rfl (by rfl) (by kernel_rfl) q2' ?_;simp only[sZa,sZb,sZc];refine one_valueE (i:=10) (v := .pointer (some ⟨b,2,none⟩)) (w':=w9) 43 (by kernel_rfl) rfl rfl (by rfl) (by kernel_rfl) q2' ?_;simp only[sZa,sZb,sZc];have z2:=qz 2;refine last_skipE (w':=w9.setCell ⟨b,2,none⟩ (.slice a9 (kg.L.length+1) c9)) (by kernel_rfl) rfl rfl (by rfl) (by go_simp;first|done|rfl) (by kernel_rfl) ?_;have ho12:Only [b] w9 (w9.setCell ⟨b,2,none⟩ (.slice a9 (kg.L.length+1) c9)):=(Only.refl [b] w9).setCell (by simp) _ _;have hw12:WalAt (w9.setCell ⟨b,2,none⟩ (.slice a9 (kg.L.length+1) c9)) b ({ kg with L:=kg.L++[x] }:LG).n { v2 with ra:=a9,rc:=c9 }:=by
          have h1:=set_cell hw9 2 (.slice a9 (kg.L.length+1) c9);(have e1:({ kg with L:=kg.L++[x] }:LG).n={ kg.n with many:=kg.L.length+1 }:=by simp[LG.n]);rw[e1];exact h1
         obtain⟨w12,hw12e⟩:∃w12,w9.setCell ⟨b,2,none⟩ (.slice a9 (kg.L.length+1) c9)=w12:=⟨_,rfl⟩;rw[hw12e]at ho12 hw12 ⊢;have hq12:SOwn 0 w12 (.slice a9 (kg.L.length+1) c9) (s2++[(sa,sn,sc)]):=hq9.only ho12 (fun k hk hm=>by
          rw[List.mem_singleton.1 hm]at hk;rcases ha9 b hk with h|h
          · exact(H7.out.2.2.raf b h).2.1 rfl
          · have:=H7.out.2.2.wal.lt;omega)
         have hO12:Only (b::ownB v2.ra) w6 w12:=((Only.of_below H7.out.1).then (ho9.wider (fun k hk=>by simp[hk])) (fun _ h=>h)).then ho12 (fun k hk=>by simp[List.mem_singleton.1 hk]);have hm:=app_made H3.out.1 H6w.out.1 H6w.out.2 hO12 hw12 hq12 (fun k hk=>(ha9 k hk).imp id (fun h=>Nat.le_trans H7.out.1.size h));have HM:Hid (LogAt (N+T.length+g.tl.length+g.l.length+16) w12 b { kg with L:=kg.L++[x] } { v2 with ra:=a9,rc:=c9 } fp2 (s2++[(sa,sn,sc)])∧Only (logF b v2 fp2) w3 w12∧∀k∈logF b { v2 with ra:=a9,rc:=c9 } fp2,k∈logF b v2 fp2∨w3.heap.size≤k):=hm;clear hm hO12 hq12 hw12 ho12 hw12e hw9 q2' qz z2 hq9 ho9 ha9 hsl hsn;go_wp2_with fail;go_ret;have hg:appG g x=(0,{ kg with L:=kg.L++[x] }):=by
          unfold appG;rw[if_neg (by simp[HF.out]),if_neg H5.out,if_neg H6.out,HT.out,HR.out,if_neg (by simp),HKG.out]
         rw[hg];refine⟨rfl,_,fp2,_,HM.out.1.more (by omega),H2.out.2.1,H3.out.2.1.trans HM.out.2.1 H3.out.2.2.1,fun k hk=>?_⟩;rcases HM.out.2.2 k hk with h|h
         · exact H3.out.2.2.1 k h
         · exact .inr (Nat.le_trans H3.out.2.1.size h)
       · have h0b:(re==0)=false:=by simpa using h0
         have HNE:Hid (¬re=0):=h0;clear h0;go_wp2_with fail;go_ret;have hg:appG g x=(re,kg):=by
          unfold appG;rw[if_neg (by simp[HF.out]),if_neg H5.out,if_neg H6.out,HT.out,HR.out,if_pos HNE.out,HKG.out]
         rw[hg];exact⟨rfl,v2,fp2,s2,H3.out.1.more (by omega),H2.out.2.1,H3.out.2.1,H3.out.2.2.1⟩
 · have hfb:(g.fault==0)=false:=by simpa using hf
   have hg:appG g x=(g.fault,g):=if_pos hf;rw[hg];clear hf hg;go_enter Tryz.func28,Tryz.ntmps28;go_wp2_with fail;go_ret;refine HL.out.stays (Below.refl _ _) ?_;omega
end Go.Proofs.YthecngkdmnadoaaGreat

namespace Go.Proofs.YthecngkdmnadoaaGreat
open Go.RowKit
set_option maxRecDepth 100000
def sydG(g:LG):Int×LG:=keepG (stepE g.d,{ g with d:=syD g.d (g.area:Int) })
theorem sydG_e(g:LG):(sydG g).1=stepE g.d:=keepG_e _
def syncG(g:LG):Int×LG:=
 if ¬g.fault=0 then (g.fault,g)
 else if g.adrift=true then (if ¬(beginG g g.first []).1=0 then ((beginG g g.first []).1,(keepG (beginG g g.first [])).2)else sydG (keepG (beginG g g.first [])).2)
 else sydG g
theorem LogAt.turnB{N M:Nat}{w w':World}{b:Nat}{g g':LG}{v:WV}{fp fp':List Nat}{s:List Sv}(h:LogAt N w b g v fp s)(ho:Only (b::fp) w w')(hd:DiskAt M w' v.p g'.d fp')(hs:∀k∈fp',k∈fp∨w.heap.size≤k)(hw:WalAt w' b g'.n v)(h2:g'.l=g.l)(h3:g'.L=g.L)(h4:g'.tl=g.tl):LogAt M w' b g' v fp' s:=by
 have hoF:Only (logF b v fp) w w':=ho.wider (fun x hx=>by
  simp only[List.mem_cons]at hx;rcases hx with h|h<;>simp[logF,h])
 have hsub:=logF_sub (b:=b) (v:=v) hs;have hbl:=h.wal.lt;have hpl:=QOwn.ltB h.pl;have hrl:=h.recs.lt;have hp:QOwn 0 w' (.slice v.pa v.pn v.pc) g.l:=h.pl.only ho (fun ad n c e k hk hm=>by
  simp only[Value.slice.injEq]at e;rw[←e.1]at hk;simp only[List.mem_cons]at hm;rcases hm with h1|h1
  · exact(h.paf k hk).2 h1
  · exact(h.paf k hk).1 h1)
 have hr:SOwn 0 w' (.slice v.ra g.L.length v.rc) s:=h.recs.only ho (fun k hk hm=>by
  simp only[List.mem_cons]at hm;rcases hm with h1|h1
  · exact(h.raf k hk).2.1 h1
  · exact(h.raf k hk).1 h1)
 refine⟨hd,hw,by rw[h2];exact hp,by rw[h3];exact hr,fun i x xs q1 q2=>(h.rows i x xs q1 (h3▸q2)).step hoF hsub,by rw[h4];exact h.tail.step hoF hsub,fun hb=>?_,fun x hx=>⟨fun hf=>?_,(h.paf x hx).2⟩,fun x hx=>⟨fun hf=>?_,(h.raf x hx).2⟩⟩
 · rcases hs b hb with h1|h1
   · exact h.bf h1
   · omega
 · rcases hs x hf with h1|h1
   · exact(h.paf x hx).1 h1
   · have:=hpl x hx;omega
 · rcases hs x hf with h1|h1
   · exact(h.raf x hx).1 h1
   · have:=hrl x hx;omega
theorem sydG_g(g:LG):(sydG g).2={ g with d:=syD g.d (g.area:Int),fault:=stepE g.d }:=by
 unfold sydG keepG;rw[if_neg (by show ¬stepE g.d=51;rcases stepE_e g.d with k|k<;>rw[k]<;>decide)]
set_option maxHeartbeats 2000000 in
theorem Sync_log(N b:Nat)(g:LG)(v:WV)(fp:List Nat)(s:List Sv)(w:World)(h:LogAt N w b g v fp s)(hok:LOk g)(hN:N<137438953472):
 Calls Tryz.prog 24 #[.pointer (some ⟨b,0,none⟩)] w (LogSays (N+g.l.length+32) b (syncG g) v fp w):=by
 have hlast:=hok.last;by_cases hf:g.fault=0
 · cases ha:g.adrift with
   |false=>
    refine(WSync_any N b g.d fp g.n v w h.disk h.wal (by omega) h.bf hf ha).mono ?_;rintro e w' ⟨rfl,⟨fp',hd,hs⟩,ho,hw⟩;(have hg:syncG g=sydG g:=by unfold syncG;rw[if_neg (by simp[hf]),ha];rfl);rw[hg];refine⟨by rw[sydG_e],v,fp',s,?_,rfl,ho.wider (fun x hx=>?_),logF_sub hs⟩
    · rw[sydG_g]
      exact h.turnB ho (hd.mono (by omega)) hs hw rfl rfl rfl
    · simp only[List.mem_cons]at hx
      rcases hx with h|h<;>simp[logF,h]
   |true=>
    obtain⟨-,c1,-,-,-,-,-,-,c8,c9,-⟩:=h.cells;rw[hf]at c9;rw[ha]at c8;obtain⟨re,rg,hr⟩:∃re rg,beginG g g.first []=(re,rg):=⟨_,_,rfl⟩;have HR:Hid (beginG g g.first []=(re,rg)):=hr;have HF:Hid (g.fault=0):=hf;have HA:Hid (g.adrift=true):=ha;have hbg:=begin_any N b g.first g v fp s [] (.slice none 0 0) w h (Bytes.nil 0 w).row hN (by omega) (by simp) hok.next hok.pl hok.many
    rw[hr]at hbg;have HB:Hid (Calls Tryz.prog 49 #[.pointer (some ⟨b,0,none⟩),.int .u64 (g.first:Int),.slice none 0 0] w (LogSays (N+([]:List Nat).length+g.l.length+16) b (re,rg) v fp w)):=hbg;(have hbn:N+([]:List Nat).length+g.l.length+16<549755813888:=by have:=hok.many;simp only[List.length_nil];omega);(have HM:Hid (N+([]:List Nat).length+g.l.length+16+1≤N+g.l.length+32):=by show _≤_;simp only[List.length_nil];omega);obtain⟨M,hM⟩:∃M,N+([]:List Nat).length+g.l.length+16=M:=⟨_,rfl⟩;rw[hM]at HB hbn HM;clear h hok hf ha hr hbg hM;go_enter Tryz.func24,Tryz.ntmps24;go_wp2_with (go_at_call 49;refine HB.out.mono ?_;rintro e w2 ⟨rfl,v2,fp2,s2,hL2,hp2,ho2,hs2⟩;have H2:Hid (LogAt M w2 b rg v2 fp2 s2∧v2.p=v.p∧Only (logF b v fp) w w2∧∀k∈logF b v2 fp2,k∈logF b v fp∨w.heap.size≤k):=⟨hL2,hp2,ho2,hs2⟩;clear hL2 hp2 ho2 hs2 HB);refine(keepL_any _ b rg v2 fp2 s2 re w2 H2.out.1).mono ?_;rintro e w3 ⟨rfl,hL3,ho3⟩;obtain⟨kg,hkg⟩:∃kg,(keepG (re,rg)).2=kg:=⟨_,rfl⟩;have HKG:Hid ((keepG (re,rg)).2=kg):=hkg;rw[hkg]at hL3;have hO3:Only (logF b v fp) w w3:=H2.out.2.2.1.then ho3 (fun k hk=>by simp[logF,List.mem_singleton.1 hk]);have H3:Hid (LogAt M w3 b kg v2 fp2 s2∧Only (logF b v fp) w w3∧(∀k∈logF b v2 fp2,k∈logF b v fp∨w.heap.size≤k)):=⟨hL3,hO3,H2.out.2.2.2⟩;clear hL3 ho3 hO3 hkg;by_cases h0:re=0
    · subst h0
      obtain⟨q0,-,-,-,-,q5,-,-,-,-,-⟩:=H3.out.1.cells;(have hS0:∀k,S3 b v2.p (kg.area:Int) (w3.drewN k):=fun _=>⟨q0,q5⟩);clear q0 q5;go_wp2_with fail;refine region_at (S:=S3 b v2.p (kg.area:Int)) 13 rfl (by kernel_rfl) (hS0 1) (fun _=>?_);refine tq4 S3.facts 0 28 1 29 2 30 3 31 ?_;simp only[sZa,sZb,sZc];refine tq4 S3.facts 4 32 5 33 6 34 7 35 ?_;simp only[sZa,sZb,sZc];refine tq2 S3.facts 8 36 9 37 ?_;simp only[sZa,sZb,sZc];refine one_call (i:=10) (w0:=w3.drew) 38 26 #[.pointer (some ⟨v2.p,0,none⟩),.int .u64 (kg.area:Int)] (by kernel_rfl) rfl rfl (by rfl) (by kernel_rfl) ?_;refine(Sync_any M v2.p kg.d fp2 (kg.area:Int) w3.drew (H3.out.1.disk.same fun _ _=>rfl) (by omega)).mono ?_;rintro e w4 ⟨rfl,fp4,hD4,hO4,hs4⟩;have hO34:Only fp2 w3 w4:=⟨hO4.os,hO4.tape,hO4.output,hO4.size,hO4.block⟩;have hL4:LogAt (M+1) w4 b { kg with d:=syD kg.d (kg.area:Int) } v2 fp4 s2:=H3.out.1.turn hO34 hD4 hs4;have hS4:S3 b v2.p (kg.area:Int) w4:=⟨hL4.cells.1,hL4.cells.2.2.2.2.2.1⟩;refine⟨_,rfl,hS4,fun _=>?_⟩;simp only[sZa,sZb,sZc];refine one_call (i:=11) (w0:=w4) 39 48 #[.pointer (some ⟨b,0,none⟩),.int .i64 (stepE kg.d)] (by kernel_rfl) rfl rfl (by rfl) (by kernel_rfl) ?_;refine(keepL_any _ b _ v2 fp4 s2 (stepE kg.d) w4 hL4).mono ?_;rintro e w5 ⟨rfl,hL5,ho5⟩;have hS5:S3 b v2.p (kg.area:Int) w5:=by
       have h1:=hL5.cells;(have e1:(keepG (stepE kg.d,{ kg with d:=syD kg.d (kg.area:Int) })).2.area=kg.area:=by unfold keepG;split<;>rfl);rw[e1]at h1;exact⟨h1.1,h1.2.2.2.2.2.1⟩
      have H5:Hid (LogAt (M+1) w5 b (sydG kg).2 v2 fp4 s2∧Only (logF b v2 fp2) w3 w5∧∀k∈logF b v2 fp4,k∈logF b v2 fp2∨w3.heap.size≤k):=
       ⟨hL5,(hO34.wider (fun k hk=>by simp[logF,hk])).then ho5 (fun k hk=>by simp[logF,List.mem_singleton.1 hk]),logF_sub hs4⟩
      refine⟨_,rfl,hS5,fun _=>?_⟩;simp only[sZa,sZb,sZc];refine one_value (i:=12) (v := .int .i64 (stepE kg.d)) (w':=w5) 2 (by kernel_rfl) rfl rfl (by rfl) (by kernel_rfl) hS5 (fun _=>?_);refine wpAnyH_done (by kernel_rfl) ?_ _;simp only[sZa,sZb,sZc];clear hS5 hL5 ho5 hS4 hL4 hO34 hD4 hO4 hs4;go_wp2_with fail;go_ret;(have hg:syncG g=sydG kg:=by unfold syncG;rw[if_neg (by simp[HF.out]),if_pos HA.out,HR.out,if_neg (by simp),HKG.out]);rw[hg];refine⟨by rw[sydG_e];rfl,v2,fp4,s2,H5.out.1.more HM.out,H2.out.2.1,H3.out.2.1.trans H5.out.2.1 H3.out.2.2,fun k hk=>?_⟩;rcases H5.out.2.2 k hk with h|h
      · exact H3.out.2.2 k h
      · exact .inr (Nat.le_trans H3.out.2.1.size h)
    · have h0b:(re==0)=false:=by simpa using h0
      have HNE:Hid (¬re=0):=h0;clear h0;go_wp2_with fail;go_ret;(have hg:syncG g=(re,kg):=by unfold syncG;rw[if_neg (by simp[HF.out]),if_pos HA.out,HR.out,if_pos HNE.out,HKG.out]);rw[hg];exact⟨rfl,v2,fp2,s2,H3.out.1.more (Nat.le_trans (Nat.le_succ _) HM.out),H2.out.2.1,H3.out.2.1,H3.out.2.2⟩
 · refine(WSync_fault b g.n v w h.wal hf).mono ?_
   rintro e w' ⟨rfl,rfl⟩;have hg:syncG g=(g.fault,g):=if_pos hf;rw[hg];exact h.stays (Below.refl _ _) (by omega)
end Go.Proofs.YthecngkdmnadoaaGreat
