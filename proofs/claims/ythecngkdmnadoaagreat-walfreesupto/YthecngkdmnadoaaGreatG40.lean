/- Texts that were written apart, joined. -/
import Derived.Test.YthecngkdmnadoaaGreatG39
import Derived.Test.YthecngkdmnadoaaGreatWalB
import Derived.Test.YthecngkdmnadoaaGreatDrawn
import Derived.Test.YthecngkdmnadoaaGreatG31
import Derived.Test.YthecngkdmnadoaaGreatG36
import Derived.Test.YthecngkdmnadoaaGreatG03
import Derived.Lib.SlBytesConst
namespace Go.Proofs.YthecngkdmnadoaaGreat
open Go.RowKit
set_option maxRecDepth 100000
theorem fo_least:∀(l:List SR) (C:SR),fo none l=some C→∀s∈l,C.1≤s.1
 |[],C,h,s,hs=>by cases hs
 |x::r,C,h,s,hs=>by
  rw[fo]at h;obtain⟨h1,h2⟩:=fo_le r _ _ h;rcases List.mem_cons.1 hs with rfl|h3
  · exact h1
  · exact h2 s h3
theorem LI.comp{f0:Nat}{M:List SR}{g:LG}{segs:List SegN}{cu:CuN}(h:LI f0 g segs cu)(hM:MO f0 M segs cu){i:Nat}(h1:g.first<i)(h2:i≤g.first+g.L.length):
 StepM f0 M (M++[(i,g.L.drop (i-g.first))]) g 0 (i,g.L.drop (i-g.first)) (compG g i):=by
 have hsub:∀r∈M,r∈M++[(i,g.L.drop (i-g.first))]:=fun r hr=>List.mem_append_left _ hr
 have hlast:(i,g.L.drop (i-g.first))∈M++[(i,g.L.drop (i-g.first))]:=List.mem_append_right _ (List.mem_singleton.2 rfl)
 have hco:compG g i=if ¬(aheadR g.d (g.area:Int) g.l i).1=0 then ((aheadR g.d (g.area:Int) g.l i).1,{ g with d:=(aheadR g.d (g.area:Int) g.l i).2,fault:=(aheadR g.d (g.area:Int) g.l i).1 })
  else (0,{ g with d:=(aheadR g.d (g.area:Int) g.l i).2,first:=i,L:=g.L.drop (i-g.first),l:=g.l.drop (downTo g.l i (g.l.length-1)),fault:=0 }):=by
  unfold compG;rw[if_neg (by rw[h.fault];decide),if_neg (by omega),if_neg (by omega)]
 obtain⟨B,hB⟩:∃B,fo none (srs (segs++cuL cu))=some B:=by
  cases hfo:fo none (srs (segs++cuL cu))with
  |some B=>exact⟨B,rfl⟩
  |none=>
   have:=h.log;rw[hfo]at this;obtain⟨_,e⟩:=this;rw[e]at h2;simp only[List.length_nil]at h2;omega
 have hlog:=h.log;rw[hB]at hlog;cases ht:downTo g.l i (g.l.length-1)with
 |zero=>
  have ha:aheadR g.d (g.area:Int) g.l i=(0,g.d):=aheadR_none ht;rw[hco,ha,if_neg (by simp),ht];have htell:Tells f0 (some B) i (g.L.drop (i-g.first)):=(Suf.refl B).tells (f0:=f0) hlog (Nat.le_of_lt h1) h2 (by have:=hlog.1;omega);have hl0:g.l.drop 0=g.l:=List.drop_zero;refine⟨.inr ⟨h.live,rfl,rfl,rfl,segs,cu,?_,hM.more hsub⟩,rfl,Nat.le_add_right _ _⟩;refine⟨h.si,h.live,rfl,h.adr,by show g.l.drop 0=_;rw[hl0];exact h.pls,h.cur0,h.cur1,h.next,?_⟩;show Tells f0 (fo none (srs (segs++cuL cu))) i (g.L.drop (i-g.first));rw[hB];exact htell
 |succ t=>
  obtain⟨k1,k2⟩:=downTo_at _ _ _ _ ht;have hpl:g.l=(segs++cuL cu).map plS:=h.pls;have hll:g.l.length=segs.length+(cuL cu).length:=by rw[hpl,List.length_map,List.length_append]
  have hcl:(cuL cu).length≤1:=by
   cases cu with
   |none=>exact Nat.zero_le _
   |some c=>exact Nat.le_refl _
  have hts:t+1≤segs.length:=by omega
  by_cases h0:stepE g.d=0
  · obtain⟨cu',c1,c2,c3,c4⟩:=h.sy h0
    obtain⟨d1,hd1⟩:∃d1,syD g.d (g.area:Int)=d1:=⟨_,rfl⟩;have hroom1:d1.room=g.d.room∧d1.secs.length=g.d.secs.length:=by
     rcases sy_alive h.live (g.area:Int)with⟨_,t2,_,t4⟩|⟨t1,_⟩
     · rw[hd1]at t2 t4
       exact⟨t4,by rw[t2];exact List.length_map ..⟩
     · rw[h0]at t1;cases t1
    (have ha:aheadR g.d (g.area:Int) g.l i=frsR d1 (g.l.take (t+1)):=by rw[aheadR_some ht h0,hd1]);rw[hd1]at c4;obtain⟨a,b,hab⟩:∃a b,segs.take (t+1)=a∧segs.drop (t+1)=b:=⟨_,_,rfl,rfl⟩;(have hsegs:segs=a++b:=by rw[←hab.1,←hab.2,List.take_append_drop]);(have hal:a.length=t+1:=by rw[←hab.1,List.length_take];omega);have htake:g.l.take (t+1)=a.map plS:=by
     rw[hpl,←List.map_take,hsegs,List.append_assoc,List.take_append_of_le_length (by omega),List.take_of_length_le (by omega)]
    have hdrop:g.l.drop (t+1)=(b++cuL cu).map plS:=by
     rw[hpl,←List.map_drop,hsegs,List.append_assoc,←hal,List.drop_left]
    rw[htake]at ha;obtain⟨y,q,hyq⟩:∃y q,b++cuL cu'=y::q:=by
     rw[c1];cases hbq:b++cuL cu with
     |cons y q=>exact⟨y,q,rfl⟩
     |nil=>
      have:=congrArg List.length hdrop;rw[hbq,List.length_drop]at this;simp only[List.map_nil,List.length_nil]at this;omega
    have hyi:y.2.1≤i:=by
     have e:g.l.getD (t+1) (0,0)=plS y:=by
      rw[List.getD_eq_getElem?_getD];(have e2:g.l[t+1]?=(g.l.drop (t+1))[0]?:=by rw[List.getElem?_drop]);rw[e2,hdrop,←c1,hyq];rfl
     rw[e]at k2;exact k2
    have hchain:=h.si.chain;have hfit:∀p q',a=p++q'→Tells f0 (fo none (srs (q'++b++cuL cu'))) i (g.L.drop (i-g.first)):=by
     intro p q' hpq;have e1:srs (segs++cuL cu)=srs p++srs (q'++b++cuL cu'):=by
      rw[←srs_append,c1,hsegs,hpq];simp only[List.append_assoc]
     obtain⟨s,w,e2⟩:∃s w,srs (q'++b++cuL cu')=s::w:=by
      cases q' with
      |nil=>exact⟨y.2,srs q,by rw[List.nil_append,hyq];rfl⟩
      |cons z r=>exact⟨z.2,srs (r++b++cuL cu'),rfl⟩
     rw[e1,e2]at hchain hB;obtain⟨_,f2⟩:=front_suf (srs p) s w hchain;obtain⟨C,f3,f4,_⟩:=f2 B hB;have hmem:y.2∈srs (q'++b++cuL cu'):=by
      rw[List.append_assoc,hyq];exact List.mem_map.2 ⟨y,List.mem_append_right _ (List.mem_cons_self ..),rfl⟩
     rw[e2]at hmem ⊢;have hCi:=fo_least _ C f3 y.2 hmem;rw[f3];exact f4.tells hlog (Nat.le_of_lt h1) h2 (by omega)
    (have hsi1:SI d1 (a++b) cu':=by rw[←hsegs];exact c4.si);have hlive1:d1.dead=false:=c4.live;obtain⟨q1,q2,q3,q4⟩:=front_main cu' a b d1 hsi1 (.inr ⟨y,q,hyq⟩) hlive1;rw[hco,ha,ht];obtain⟨R,hR⟩:∃R,frsR d1 (a.map plS)=R:=⟨_,rfl⟩;rw[hR]at q1 q2 q3 q4 ⊢;rcases q1 with⟨v1,v2,v3⟩|⟨v1,v2,p,q',v3,v4⟩
    · rw[if_neg (by rw[v1];decide)]
      have htf:=hfit a [] (List.append_nil _).symm;rw[List.nil_append]at htf;refine⟨.inr ⟨v2,rfl,rfl,rfl,b,cu',?_,(MO.all c2 htf.fits).more (fun r hr=>by rw[List.mem_singleton.1 hr];exact hlast)⟩,q2.trans hroom1.1,by show R.2.secs.length≤_;omega⟩;refine⟨v3,v2,rfl,h.adr,?_,c4.cur0,fun x kd e=>?_,fun x hx=>?_,htf⟩
      · show g.l.drop (t+1)=(b++cuL cu').map plS
        rw[hdrop,c1]
      · obtain⟨w1,w2,w3,w4,w5⟩:=c4.cur1 x kd e
        refine⟨w1,fun j=>?_,w3,w4,w5⟩;show OkV _ _ _ j (curOf R.2.secs (arN x.1) (j:Int));rw[q4 (arN x.1) (fun z hz e2=>?_) (j:Int)]
        · exact w2 j
        · have hasc:=hsi1.asc
          rw[List.append_assoc,List.map_append,List.pairwise_append]at hasc
          have:=hasc.2.2 z.1 (List.mem_map.2 ⟨z,hz,rfl⟩) x.1 (by
           rw[e];exact List.mem_map.2 ⟨x,List.mem_append_right _ (List.mem_singleton.2 rfl),rfl⟩)
          have:=numArea.1 e2;omega
      · refine h.next x ?_
        rw[hsegs,←c1,List.append_assoc];exact List.mem_append_right _ hx
    · rw[if_pos (by rw[v1];decide)]
      refine⟨.inl ⟨v2,?_⟩,q2.trans hroom1.1,by show R.2.secs.length≤_;omega⟩
      exact⟨_,_,v4,(MO.all c2 (hfit p q' v3).fits).more (fun r hr=>by rw[List.mem_singleton.1 hr];exact hlast),fun x hx=>Nat.le_of_lt (h.next x (by
       rw[c1]at hx;rw[hsegs,v3,List.append_assoc,List.append_assoc];rw[List.append_assoc]at hx;exact List.mem_append_right _ hx))⟩
  · have ha:aheadR g.d (g.area:Int) g.l i=(stepE g.d,syD g.d (g.area:Int)):=aheadR_dead ht h0
    rcases h.synced with⟨s1,_⟩|⟨s1,s2,s3,s4,s5⟩
    · exact absurd s1 h0
    · rw[hco,ha,if_pos (by show ¬stepE g.d=0;rw[s1];decide)]
      exact⟨.inl ⟨s3,⟨_,_,s2,hM.more hsub,fun y hy=>Nat.le_of_lt (h.next y hy)⟩⟩,s4,by show(syD g.d (g.area:Int)).secs.length≤_;omega⟩
end Go.Proofs.YthecngkdmnadoaaGreat

namespace Go.Proofs.YthecngkdmnadoaaGreat
open Go.RowKit
set_option maxRecDepth 100000
def RecsAt(w:World)(ra:Option Addr)(rc:Nat)(L:List (List Nat)):Prop:=
 L.length≤rc∧(0<L.length→∃b off,ra=some ⟨b,off,none⟩∧b<w.heap.size∧∀(i:Nat) (xs:List Nat),L[i]?=some xs→∃rv,w.cell? ⟨b,off+i,none⟩=some rv∧Row w.heap.size w rv xs)
theorem RecsAt.below{w w':World}{ra:Option Addr}{rc:Nat}{L:List (List Nat)}(h:RecsAt w ra rc L)(hb:Below w.heap.size w w'):RecsAt w' ra rc L:=by
 refine⟨h.1,fun h0=>?_⟩;obtain⟨b,off,e,hl,hc⟩:=h.2 h0;refine⟨b,off,e,Nat.lt_of_lt_of_le hl hb.size,fun i xs hi=>?_⟩;obtain⟨rv,h1,h2⟩:=hc i xs hi;exact⟨rv,(hb.cell (p:=⟨b,off+i,none⟩) hl).trans h1,(h2.below hb).mono hb.size⟩
structure SGt(b first many rb off rc j:Nat)(rv:Value)(W:World):Prop where
 c1:W.cell? ⟨b,1,none⟩=some (.int .u64 (first:Int))
 c2:W.cell? ⟨b,2,none⟩=some (.slice (some ⟨rb,off,none⟩) many rc)
 ce:W.cell? ⟨rb,off+j,none⟩=some rv
theorem SGt.facts{b first many rb off rc j:Nat}{rv:Value}{W:World}(h:SGt b first many rb off rc j rv W):W.cell? ⟨b,1,none⟩=some (.int .u64 (first:Int))∧W.cell? ⟨b,2,none⟩=some (.slice (some ⟨rb,off,none⟩) many rc)∧W.cell? ⟨rb,off+j,none⟩=some rv:=⟨h.c1,h.c2,h.ce⟩
def nearZ(z:Int):Bool:=decide (-1000000<z∧z<1000000)
theorem near_any(k z:Int)(bv:Value)(w:World):Calls Tryz.prog 13 #[.agg #[.int .i64 k,.int .i64 z,bv]] w fun e w'=>e = .returned (.bool (nearZ z))∧Below w.heap.size w w':=by
 by_cases h1 : -1000000<z
 · by_cases h2:z<1000000
   · have HE:Hid (nearZ z=true):=decide_eq_true ⟨h1,h2⟩
     go_enter Tryz.func13,Tryz.ntmps13;go_wp2;go_ret;exact⟨by rw[HE.out];rfl,(Below.refl _ w).alloc (Nat.le_refl _) _⟩
   · have HE:Hid (nearZ z=false):=decide_eq_false (fun h=>h2 h.2)
     go_enter Tryz.func13,Tryz.ntmps13;go_wp2;go_ret;exact⟨by rw[HE.out];rfl,(Below.refl _ w).alloc (Nat.le_refl _) _⟩
 · have HE:Hid (nearZ z=false):=decide_eq_false (fun h=>h1 h.1)
   go_enter Tryz.func13,Tryz.ntmps13;go_wp2;go_ret;exact⟨by rw[HE.out];rfl,(Below.refl _ w).alloc (Nat.le_refl _) _⟩
def GetSays(n:WN)(L:List (List Nat))(i:Nat)(w:World)(e:Ending)(w':World):Prop:=
 Below w.heap.size w w'∧((¬(n.first≤i∧i<n.first+n.many)∧e = .returned (.tuple #[.slice none 0 0,.bool false]))∨∃xs rv,(n.first≤i∧i<n.first+n.many)∧L[i-n.first]?=some xs∧e = .returned (.tuple #[rv,.bool true])∧Row w'.heap.size w' rv xs)
set_option maxHeartbeats 1000000 in
theorem Get_any(w:World)(b:Nat)(n:WN)(v:WV)(L:List (List Nat))(i:Nat)(h:WalAt w b n v)(hr:RecsAt w v.ra v.rc L)(hL:L.length=n.many)(hs:n.first+n.many<18446744073709551616)(hm:n.many≤4611686018427387904)(hx:∀xs∈L,xs.length≤140737488355328):
 Calls Tryz.prog 36 #[.pointer (some ⟨b,0,none⟩),.int .u64 (i:Int)] w (GetSays n L i w):=by
 have HW:Hid (WalAt w b n v):=h;have HR:Hid (RecsAt w v.ra v.rc L):=hr;have HX:Hid (∀xs∈L,xs.length≤140737488355328):=hx;have HL:Hid (L.length=n.many):=hL;obtain⟨c0,c1,c2,c3,c4,c5,c6,c7,c8,c9,cz⟩:=h.cells;clear h hr c0 c3 c4 c5 c6 c7 c8 c9 hL hx;by_cases h1:i<n.first
 · have h1':(i:Int)<(n.first:Int):=by omega
   (have HE:Hid (¬(n.first≤i∧i<n.first+n.many)):=fun hh=>by omega);clear h1;go_enter Tryz.func36,Tryz.ntmps36;go_wp2_with fail;go_ret2;exact⟨Below.refl _ _,.inl ⟨HE.out,rfl⟩⟩
 · have h1':¬(i:Int)<(n.first:Int):=by omega
   by_cases h2:n.first+n.many≤i
   · have h2':((n.first+n.many:Nat):Int)≤(i:Int):=by omega
     (have HE:Hid (¬(n.first≤i∧i<n.first+n.many)):=fun hh=>by omega);clear h1 h2;go_enter Tryz.func36,Tryz.ntmps36;go_wp2_with fail;refine(wend_any w b n v HW.out hs (by omega)).mono ?_;rintro e w1 ⟨rfl,k,rfl⟩;obtain⟨en,hen⟩:∃en,n.first+n.many=en:=⟨_,rfl⟩;rw[hen]at h2';rw[hen];clear hen;go_wp2_with fail;go_ret2;exact⟨below_drewN (Below.refl _ w) k,.inl ⟨HE.out,rfl⟩⟩
   · have h2':¬((n.first+n.many:Nat):Int)≤(i:Int):=by omega
     obtain⟨j,hj⟩:∃j,i-n.first=j:=⟨_,rfl⟩;(have hjm:j<n.many:=by omega);obtain⟨rb,off,hra,hrl,hel⟩:=HR.out.2 (by rw[HL.out];omega);obtain⟨xs,hxs⟩:∃xs,L[j]?=some xs:=⟨_,List.getElem?_eq_getElem (by rw[HL.out];exact hjm)⟩;obtain⟨rv,hc,hrow⟩:=hel j xs hxs;have HRow:Hid (Row w.heap.size w rv xs):=hrow;(have HXS:Hid (L[i-n.first]?=some xs):=by show _=_;rw[hj];exact hxs);have HE:Hid (n.first≤i∧i<n.first+n.many):=⟨by omega,by omega⟩;have hxl:=HX.out xs (List.mem_of_getElem? hxs);(have hji:(i:Int)-(n.first:Int)=(j:Int):=by omega);(have hjl:(j:Int)<(n.many:Int):=by omega);(have hwj:IntKind.u64.wrap (j:Int)=(j:Int):=by simp[IntKind.wrap,IntKind.bits,IntKind.signed];omega);(have hrc:n.many≤v.rc:=by have:=HR.out.1;rw[HL.out]at this;exact this);rw[hra]at c2;clear hel hrow hxs h1 h2;go_enter Tryz.func36,Tryz.ntmps36;go_wp2_with fail;refine(wend_any w b n v HW.out hs (by omega)).mono ?_;rintro e w1 ⟨rfl,k,rfl⟩;obtain⟨en,hen⟩:∃en,n.first+n.many=en:=⟨_,rfl⟩;rw[hen]at h2';rw[hen];clear hen;have HS:Hid (SGt b n.first n.many rb off v.rc j rv (w.drewN k).drew):=⟨c1,c2,hc⟩;go_wp2_with fail;refine region_at (S:=SGt b n.first n.many rb off v.rc j rv) 15 rfl (by kernel_rfl) HS.out (fun hHeld=>?_);refine tq4 SGt.facts 0 18 1 19 2 20 3 21 ?_;simp only[sZa,sZb,sZc];refine tq4 SGt.facts 4 22 5 23 6 24 7 25 ?_;simp only[sZa,sZb,sZc];refine tq4 SGt.facts 8 26 9 27 10 28 11 29 ?_;simp only[sZa,sZb,sZc];have BK:Below w.heap.size w (w.drewN k).drew:=(below_drewN (Below.refl _ w) k).drew;refine one_call (i:=12) (w0:=(w.drewN k).drew) 30 58 #[rv] (by kernel_rfl) rfl rfl (by rfl) (by kernel_rfl) ?_;refine(cloneB_any w.heap.size rv xs _ (HRow.out.below BK) hxl).mono ?_;rintro e w2 ⟨hb2,hcl⟩;have B2:Below w.heap.size w w2:=BK.trans hb2;obtain⟨rv2,rfl,hrow2⟩:∃rv2,e = .returned rv2∧Row w2.heap.size w2 rv2 xs:=by
      rcases hcl with⟨rfl,rfl⟩|⟨g,cap,rfl,hcp,_,hg,hcs⟩
      · exact⟨_,rfl,none,0,rfl,Nat.le_refl _,fun _=>rfl,fun h=>by simp at h⟩
      · exact⟨_,rfl,some ⟨g,0,none⟩,cap,rfl,hcp,(fun h=>by cases h),fun _=>⟨g,0,rfl,hg,hcs⟩⟩
     have hS2:SGt b n.first n.many rb off v.rc j rv w2:=⟨(B2.cell (p:=⟨b,1,none⟩) HW.out.lt).trans c1,(B2.cell (p:=⟨b,2,none⟩) HW.out.lt).trans c2,(B2.cell (p:=⟨rb,off+j,none⟩) hrl).trans hc⟩;refine⟨_,rfl,hS2,fun hHeld2=>?_⟩;simp only[sZa,sZb,sZc];refine tq2 SGt.facts 13 4 14 5 ?_;simp only[sZa,sZb,sZc];refine wpAnyH_done (by kernel_rfl) ?_ _;have HF:Hid (GetSays n L i w (.returned (.tuple #[rv2,.bool true])) w2):=⟨B2,.inr ⟨xs,rv2,HE.out,HXS.out,rfl,hrow2⟩⟩;clear hHeld hHeld2 hS2 B2 BK hrow2 hb2;go_wp2_with fail;go_ret2;exact HF.out
end Go.Proofs.YthecngkdmnadoaaGreat

namespace Go.Proofs.YthecngkdmnadoaaGreat
open Go.RowKit
set_option maxRecDepth 100000
theorem cur_bytes{S:List Sec}(h:S.all (fun s=>(s.cur.getD []).all (·<256))=true):∀a i u,curOf S a i=some u→∀y∈u,y<256:=by
 intro a i u hu y hy;unfold curOf at hu;cases hf:findS a i S with
 |none=>rw[hf]at hu;cases hu
 |some s=>
  rw[hf]at hu;have hs:s.cur=some u:=hu;have h1:=List.all_eq_true.1 h s (findS_mem hf);rw[hs]at h1;have h2:=List.all_eq_true.1 h1 y hy;exact of_decide_eq_true h2
theorem SOwn.recs{w:World}{ra:Option Addr}{n rc:Nat}{s:List Sv}{F:List Nat}{L:List (List Nat)}(h:SOwn 0 w (.slice ra n rc) s)(hl:s.length=L.length)(hr:∀(i:Nat) (x:Sv) (xs:List Nat),s[i]?=some x→L[i]?=some xs→RowX F w (encS x) xs):RecsAt w ra rc L:=by
 obtain⟨_,⟨e,h0⟩|⟨g,cap,cur,e,hb,hh,h3,h4,h5,h6⟩⟩:=id h
 · simp only[Value.slice.injEq]at e
   exact⟨by omega,fun hp=>by omega⟩
 · simp only[Value.slice.injEq]at e
   obtain⟨rfl,rfl,rfl⟩:=e;obtain⟨cur2,_,q2,q3,q4,q5,q6,q7,_⟩:=SOwn.block h;refine⟨by omega,fun hp=>⟨g,0,rfl,(Array.getElem?_eq_some_iff.1 hh).1,fun i xs hi=>?_⟩⟩;have hil:=(List.getElem?_eq_some_iff.1 hi).1;obtain⟨x,hx⟩:∃x,s[i]?=some x:=⟨_,List.getElem?_eq_getElem (by omega)⟩;exact⟨encS x,by rw[Nat.zero_add];exact q7 i x hx,(hr i x xs hx hi).1⟩
theorem LogAt.recsAt{N:Nat}{w:World}{b:Nat}{g:LG}{v:WV}{fp:List Nat}{s:List Sv}(h:LogAt N w b g v fp s):RecsAt w v.ra v.rc g.L:=h.recs.recs h.len.1 h.rows
def z0:LG:=(openG (newD 100) 0 5).2
def z1:LG:=(appG z0 [97]).2
def z2:LG:=(appG z1 [98]).2
def z3:LG:=(syncG z2).2
def z4:LG:=(openG z3.d 0 5).2
set_option maxHeartbeats 2000000
theorem z0_is:openG (newD 100) 0 5=(0,z0):=Prod.ext (by decide +kernel) rfl
theorem z1_is:appG z0 [97]=(0,z1):=Prod.ext (by decide +kernel) rfl
theorem z2_is:appG z1 [98]=(0,z2):=Prod.ext (by decide +kernel) rfl
theorem z3_is:syncG z2=(0,z3):=Prod.ext (by decide +kernel) rfl
theorem z4_is:openG z3.d 0 5=(0,z4):=Prod.ext (by decide +kernel) rfl
theorem z0_facts:z0.first=5∧z0.L.length=0∧z0.tl.length=0∧z0.l.length=0:=by decide +kernel
theorem z1_facts:z1.tl.length<100∧z1.l.length<100:=by decide +kernel
theorem z2_facts:z2.tl.length<100∧z2.l.length<100:=by decide +kernel
theorem z4_facts:z4.first=5∧z4.L=[[97],[98]]:=by decide +kernel
theorem z0_ok:LOk z0:=⟨by decide +kernel,by decide +kernel,by decide +kernel,by decide +kernel,by decide +kernel,by decide +kernel,by decide +kernel⟩
theorem z1_ok:LOk z1:=⟨by decide +kernel,by decide +kernel,by decide +kernel,by decide +kernel,by decide +kernel,by decide +kernel,by decide +kernel⟩
theorem z2_ok:LOk z2:=⟨by decide +kernel,by decide +kernel,by decide +kernel,by decide +kernel,by decide +kernel,by decide +kernel,by decide +kernel⟩
theorem zn_open(room:Int)(fr:Nat):(∀a∈areasS (newD room).secs,0≤a∧a<18446744073709551616)∧(nextN (newD room) fr≤1152921504606846976→∀x∈numsN (newD room),x≤1152921504606846976)∧(numsN (newD room)).length=0∧(∀a i u,curOf (newD room).secs a i=some u→∀y∈u,y<256):=by
 have hn:numsN (newD room)=[]:=by show(numsOf (areasS [])).map Int.toNat=[];decide +kernel
 have ha:areasS (newD room).secs=[]:=by show areasS []=[];decide +kernel
 refine⟨fun a h=>?_,fun _ x h=>?_,by rw[hn];rfl,fun a i u hu=>by cases hu⟩
 · rw[ha]at h;cases h
 · rw[hn]at h;cases h
theorem z3_open:(∀a∈areasS z3.d.secs,0≤a∧a<18446744073709551616)∧(∀x∈numsN z3.d,x≤1152921504606846976)∧(numsN z3.d).length≤16000∧tsum z3.d.secs (numsN z3.d)≤68000000000∧z3.d.secs.all (fun s=>(s.cur.getD []).all (·<256))=true:=by
 refine⟨by decide +kernel,by decide +kernel,by decide +kernel,by decide +kernel,by decide +kernel⟩
end Go.Proofs.YthecngkdmnadoaaGreat

namespace Go.Proofs.YthecngkdmnadoaaGreat
open Go.RowKit
set_option maxRecDepth 100000
structure Since(W0:World)(N:Nat)(w:World)(b p:Nat)(g:LG)(v:WV)(fp:List Nat)(s:List Sv):Prop where
 log:LogAt N w b g v fp s
 new:∀k∈logF b v fp,W0.heap.size≤k
 below:Below W0.heap.size W0 w
 p:v.p=p
theorem Since.says{W0:World}{N M b p:Nat}{w w':World}{g:LG}{v:WV}{fp:List Nat}{s:List Sv}{r:Int×LG}{e:Ending}(h:Since W0 N w b p g v fp s)(hs:LogSays M b r v fp w e w'):e = .returned (.int .i64 r.1)∧∃v' fp' s',Since W0 M w' b p r.2 v' fp' s':=by
 obtain⟨h1,v',fp',s',h2,h3,h4,h5⟩:=hs;refine⟨h1,v',fp',s',h2,fun k hk=>?_,h.below.trans (h4.below h.below.size h.new),h3.trans h.p⟩;rcases h5 k hk with h6|h6
 · exact h.new k h6
 · exact Nat.le_trans h.below.size h6
theorem Since.on{W0:World}{N b p:Nat}{w w':World}{g:LG}{v:WV}{fp:List Nat}{s:List Sv}(h:Since W0 N w b p g v fp s)(hb:Below w.heap.size w w'):Since W0 N w' b p g v fp s:=⟨h.log.below hb,h.new,h.below.trans (hb.mono h.below.size),h.p⟩
theorem Since.more{W0:World}{N M b p:Nat}{w:World}{g:LG}{v:WV}{fp:List Nat}{s:List Sv}(h:Since W0 N w b p g v fp s)(hm:N≤M):Since W0 M w b p g v fp s:=⟨h.log.more hm,h.new,h.below,h.p⟩
theorem new_byte(w:World)(k:Nat)(b:Nat)(v:WV)(fp:List Nat)(n:Nat)(f:Nat×Nat)(hlt:∀k∈logF b v fp,k<w.heap.size):RowX (logF b v fp) ((w.drewN k).alloc (.cells #[.int .u8 (n:Int)] 5 f)) (.slice (some ⟨w.heap.size,0,none⟩) 1 1) [n]:=by
 have h2:((w.drewN k).alloc (.cells #[.int .u8 (n:Int)] 5 f)).heap[w.heap.size]?=some (.cells #[.int .u8 (n:Int)] 5 f):=alloc_newQ (w.drewN k) _;refine⟨⟨_,_,rfl,Nat.le_refl _,fun h=>(by cases h),fun _=>⟨w.heap.size,0,rfl,(Array.getElem?_eq_some_iff.1 h2).1,fun i hi=>?_⟩⟩,fun bb off len cap e _ hm=>?_⟩
 · simp only[List.length_singleton]at hi
   (have hi0:i=0:=by omega);subst hi0;simp only[World.cell?,h2];rfl
 · simp only[Value.slice.injEq,Option.some.injEq,Addr.mk.injEq]at e
   have:=hlt bb hm;omega
theorem open_since{W0:World}{N p fr first C:Nat}{d:DS}{fp:List Nat}{w:World}{g:LG}(h:DiskAt N w p d fp)(hb:Below W0.heap.size W0 w)(hf:∀k∈fp,W0.heap.size≤k)(hN:N<130000000000)(hfr:fr<18446744073709551616)(hfi:first<18446744073709551616)
 (hok:∀a∈areasS d.secs,0≤a∧a<18446744073709551616) (hup:nextN d fr≤1152921504606846976→∀x∈numsN d,x≤1152921504606846976) (hcnt:(numsN d).length≤C) (hC:C≤1073741824) (hts:tsum d.secs (numsN d)≤68000000000) (hB:∀a i u,curOf d.secs a i=some u→∀y∈u,y<256) (hg:openG d fr first=(0,g)):
 Calls Tryz.prog 12 #[.pointer (some ⟨p,0,none⟩),.int .u64 (fr:Int),.int .u64 (first:Int)] w fun e w'=>∃b v fp' s,e = .returned (.tuple #[.pointer (some ⟨b,0,none⟩),.int .i64 0])∧Since W0 (N+C) w' b p g v fp' s:=by
 refine(Open_any N p fr first d fp w h hN hfr hfi hok hup (by omega) hts hB).mono ?_;rintro e w' (⟨h1,_⟩|⟨_,b,v,fp',s,rfl,h2,h3,h4,h5,h6⟩)
 · rw[hg]at h1;exact absurd rfl h1
 · rw[hg]at h2
   refine⟨b,v,fp',s,rfl,h2.more (by omega),fun k hk=>?_,hb.trans (h5.below hb.size hf),h3⟩;rcases h6 k hk with h7|h7
   · exact hf k h7
   · exact Nat.le_trans hb.size h7
theorem app_since{W0:World}{N b p n:Nat}{w:World}{g g2:LG}{v:WV}{fp:List Nat}{s:List Sv}(h:Since W0 N w b p g v fp s)(hg:appG g [n]=(0,g2))(hok:LOk g)(hN:N<100000000)(h1:g.tl.length≤100)(h2:g.l.length≤100)(k:Nat)(f:Nat×Nat)(z:Int)(hz:z=(n:Int)):
 Calls Tryz.prog 28 #[.pointer (some ⟨b,0,none⟩),.slice (some ⟨w.heap.size,0,none⟩) 1 1] ((w.drewN k).alloc (.cells #[.int .u8 z] 5 f)) fun e w'=>e = .returned (.int .i64 0)∧∃v' fp' s',Since W0 (N+1000) w' b p g2 v' fp' s':=by
 subst hz;have hs:Since W0 N ((w.drewN k).alloc (.cells #[.int .u8 (n:Int)] 5 f)) b p g v fp s:=h.on ((belowN (Below.refl _ w) k).alloc (Nat.le_refl _) _);have hx:RowX (logF b v fp) ((w.drewN k).alloc (.cells #[.int .u8 (n:Int)] 5 f)) (.slice (some ⟨w.heap.size,0,none⟩) 1 1) [n]:=new_byte w k b v fp n f h.log.lt;refine(App_any N b g v fp s [n] _ _ hs.log hx hok (by omega) (by simp)).mono ?_;rw[hg];rintro e w' hsays;obtain⟨rfl,v',fp',s',h3⟩:=hs.says hsays;exact⟨rfl,v',fp',s',h3.more (by omega)⟩
theorem sync_since{W0:World}{N b p:Nat}{w:World}{g g2:LG}{v:WV}{fp:List Nat}{s:List Sv}(h:Since W0 N w b p g v fp s)(hg:syncG g=(0,g2))(hok:LOk g)(hN:N<100000000)(h2:g.l.length≤100):
 Calls Tryz.prog 24 #[.pointer (some ⟨b,0,none⟩)] w fun e w'=>e = .returned (.int .i64 0)∧∃v' fp' s',Since W0 (N+1000) w' b p g2 v' fp' s':=by
 refine(Sync_log N b g v fp s w h.log hok (by omega)).mono ?_;rw[hg];rintro e w' hsays;obtain⟨rfl,v',fp',s',h3⟩:=h.says hsays;exact⟨rfl,v',fp',s',h3.more (by omega)⟩
theorem first_since{W0:World}{N b p:Nat}{w:World}{g:LG}{v:WV}{fp:List Nat}{s:List Sv}(h:Since W0 N w b p g v fp s)(z:Int)(hz:(g.first:Int)=z):Calls Tryz.prog 16 #[.pointer (some ⟨b,0,none⟩)] w fun e w'=>e = .returned (.int .u64 z)∧w'=w:=by
 subst hz;exact WFirst_any w b g.n v h.log.wal
theorem last_since{W0:World}{N b p:Nat}{w:World}{g:LG}{v:WV}{fp:List Nat}{s:List Sv}(h:Since W0 N w b p g v fp s)(hs:g.first+g.L.length<4611686018427387904)(z:Int)(hz:IntKind.u64.wrap (((g.first+g.L.length:Nat):Int)-1)=z):Calls Tryz.prog 30 #[.pointer (some ⟨b,0,none⟩)] w fun e w'=>e = .returned (.int .u64 z)∧∃k,w'=w.drewN k:=by
 subst hz;exact WLast_any w b g.n v h.log.wal (show g.first+g.L.length<_ by omega) (show g.L.length≤_ by omega)
set_option maxHeartbeats 4000000 in
theorem alive5_any(w:World):Calls Tryz.prog 11 #[] w fun e w'=>e = .returned (.bool true)∧Below w.heap.size w w':=by
 have hz:=zn_open 100 0;go_enter Tryz.func11,Tryz.ntmps11;go_wp2_with fail;refine(New_any 100 w (by omega) (by omega)).mono ?_;rintro e w1 ⟨p,fp,rfl,hd1,hb1,hf1⟩
 have HO:Hid (Calls Tryz.prog 12 #[.pointer (some ⟨p,0,none⟩),.int .u64 0,.int .u64 5] w1 fun e w'=>∃b v fp' s,e = .returned (.tuple #[.pointer (some ⟨b,0,none⟩),.int .i64 0])∧Since w (0+16000) w' b p z0 v fp' s):=
  open_since (fr := 0) (first := 5) hd1 hb1 hf1 (by omega) (by omega) (by omega) hz.1 hz.2.1 (by rw [hz.2.2.1]; omega) (by omega) (by rw [List.eq_nil_of_length_eq_zero hz.2.2.1]; decide) hz.2.2.2 z0_is
 clear hz hd1 hb1 hf1;go_wp2_with fail;refine HO.out.mono ?_;rintro e w2 ⟨b,v,fp2,s,rfl,hs2⟩;have HS2:Hid (Since w 16000 w2 b p z0 v fp2 s):=hs2;clear hs2 HO;go_wp2_with fail;refine(first_since HS2.out 5 (by rw[z0_facts.1];rfl)).mono ?_;rintro e w3 ⟨rfl,rfl⟩;go_wp2_with fail;refine(last_since HS2.out (by rw[z0_facts.1,z0_facts.2.1];omega) 4 (by rw[z0_facts.1,z0_facts.2.1];rfl)).mono ?_;rintro e w3 ⟨rfl,k3,rfl⟩;have hconv:(convert 34 34 (.slice (some ⟨w3.heap.size,0,none⟩) 1 1)).run Tryz.prog ((w3.drewN k3).alloc (.cells #[.int .u8 97] 5)) = .ok (.slice (some ⟨w3.heap.size,0,none⟩) 1 1) ((w3.drewN k3).alloc (.cells #[.int .u8 97] 5 (1,2))):=Lib.run_convert_bytes_const (P:=Tryz.prog) (w3.drewN k3) 34 5 #[.int .u8 97] 1 1 Tryz.underlying34 Tryz.underlying5;go_wp2_with fail;clear hconv;refine(app_since HS2.out z1_is z0_ok (by omega) (by rw[z0_facts.2.2.1];omega) (by rw[z0_facts.2.2.2];omega) k3 _ 97 rfl).mono ?_;rintro e w4 ⟨rfl,v4,fp4,s4,hs4⟩;have HS4:Hid (Since w 17000 w4 b p z1 v4 fp4 s4):=hs4;clear hs4;have hconv:=Lib.run_convert_bytes_const (P:=Tryz.prog) w4 34 5 #[.int .u8 98] 1 1 Tryz.underlying34 Tryz.underlying5;go_wp2_with fail;clear hconv;refine(app_since HS4.out z2_is z1_ok (by omega) (by have:=z1_facts.1;omega) (by have:=z1_facts.2;omega) 0 _ 98 rfl).mono ?_;rintro e w5 ⟨rfl,v5,fp5,s5,hs5⟩;have HS5:Hid (Since w 18000 w5 b p z2 v5 fp5 s5):=hs5;clear hs5;go_wp2_with fail;refine(sync_since HS5.out z3_is z2_ok (by omega) (by have:=z2_facts.2;omega)).mono ?_;rintro e w6 ⟨rfl,v6,fp6,s6,hs6⟩;have HS6:Hid (Since w 19000 w6 b p z3 v6 fp6 s6):=hs6;have hz3:=z3_open;have HD6:Hid (DiskAt 19000 w6 p z3.d fp6∧∀k∈fp6,w.heap.size≤k):=by
  have h1:=hs6.log.disk;rw[hs6.p]at h1;exact⟨h1,fun k hk=>hs6.new k (by simp[logF,hk])⟩
 have HO:Hid (Calls Tryz.prog 12 #[.pointer (some ⟨p,0,none⟩),.int .u64 0,.int .u64 5] w6 fun e w'=>∃b v fp' s,e = .returned (.tuple #[.pointer (some ⟨b,0,none⟩),.int .i64 0])∧Since w (19000+16000) w' b p z4 v fp' s):=
  open_since (fr := 0) (first := 5) HD6.out.1 HS6.out.below HD6.out.2 (by omega) (by omega) (by omega) hz3.1 (fun _ => hz3.2.1) hz3.2.2.1 (by omega) hz3.2.2.2.1 (cur_bytes hz3.2.2.2.2) z4_is
 clear hs6 hz3;go_wp2_with fail;refine HO.out.mono ?_;rintro e w7 ⟨b7,v7,fp7,s7,rfl,hs7⟩;have HS7:Hid (Since w 35000 w7 b7 p z4 v7 fp7 s7):=hs7;clear hs7 HO;go_wp2_with fail;have hget:=Get_any w7 b7 z4.n v7 z4.L 6 HS7.out.log.wal HS7.out.log.recsAt rfl (show z4.first+z4.L.length<_ by rw[z4_facts.1,z4_facts.2];simp) (show z4.L.length≤_ by rw[z4_facts.2];simp) (by rw[z4_facts.2];intro xs hx;simp at hx;rcases hx with rfl|rfl<;>simp);have HG:Hid (Calls Tryz.prog 36 #[.pointer (some ⟨b7,0,none⟩),.int .u64 6] w7 fun e w'=>Below w7.heap.size w7 w'∧∃rv,e = .returned (.tuple #[rv,.bool true])∧Row w'.heap.size w' rv [98]):=by
  refine hget.mono ?_;have e1:z4.n.first=5:=z4_facts.1;have e2:z4.n.many=2:=by show z4.L.length=2;rw[z4_facts.2];rfl
  rintro e w' ⟨hb,⟨h1,_⟩|⟨xs,rv,h1,h2,h3,h4⟩⟩
  · exact absurd ⟨by omega,by omega⟩ h1
  · rw[e1,z4_facts.2]at h2
    simp at h2;subst h2;exact⟨hb,rv,h3,h4⟩
 clear hget;refine HG.out.mono ?_;rintro e w8 ⟨hb8,rv,rfl,hrv⟩;obtain⟨ra8,rc8,rfl,_⟩:=hrv.shape;have HS8:Hid (Since w 35000 w8 b7 p z4 v7 fp7 s7):=HS7.out.on hb8;have hstr:=hrv.str;have HR8:Hid (Row w8.heap.size w8 (.slice ra8 [98].length rc8) [98]):=hrv;clear hb8 hrv HG;go_wp2_with fail;refine(last_since HS8.out (by rw[z4_facts.1,z4_facts.2];simp) 6 (by rw[z4_facts.1,z4_facts.2];rfl)).mono ?_;rintro e w9 ⟨rfl,k9,rfl⟩;clear hstr;have hr9:Row (w8.drewN k9).heap.size (w8.drewN k9) (.slice ra8 [98].length rc8) [98]:=HR8.out;have hs9:(convert 34 9 (.slice ra8 1 rc8)).run Tryz.prog (w8.drewN k9) = .ok (.string { data:=#[98] }) (w8.drewN k9):=hr9.str;clear hr9;go_wp2_with fail;go_ret;exact⟨by rfl,HS8.out.below.trans (belowN (Below.refl _ _) _)⟩
end Go.Proofs.YthecngkdmnadoaaGreat

namespace Go.Proofs.YthecngkdmnadoaaGreat
open Go.RowKit
set_option maxRecDepth 100000
def ixG(g:LG)(z:Int):Nat:=(IntKind.u64.wrap ((g.first:Int)+IntKind.u64.wrap z)).toNat
def doesG(g:LG)(k z:Int)(x:List Nat):Int×LG:=
 if k=0 then appG g x else if k=1 then syncG g else if k=2 then truncG g (ixG g z)else if k=3 then compG g (ixG g z)else (0,g)
theorem wrap_u64(z:Int):0≤IntKind.u64.wrap z∧IntKind.u64.wrap z<18446744073709551616:=by
 simp only[IntKind.wrap,IntKind.bits,IntKind.signed];constructor
 · simp;omega
 · simp;omega
theorem ixG_is(g:LG)(z:Int):IntKind.u64.wrap ((g.first:Int)+IntKind.u64.wrap z)=(ixG g z:Int)∧ixG g z<18446744073709551616:=by
 have h:=wrap_u64 ((g.first:Int)+IntKind.u64.wrap z);unfold ixG;constructor
 · omega
 · omega
theorem Since.row{W0:World}{N b p:Nat}{w:World}{g:LG}{v:WV}{fp:List Nat}{s:List Sv}(h:Since W0 N w b p g v fp s){xv:Value}{x:List Nat}(hx:Row W0.heap.size W0 xv x):RowX (logF b v fp) w xv x:=by
 refine⟨(hx.below h.below).mono h.below.size,fun bb off len cap e h0 hm=>?_⟩;obtain⟨ao,cap',e1,_,_,hc⟩:=hx;obtain⟨b',off',e2,h3,_⟩:=hc h0;rw[e1,e2]at e;simp only[Value.slice.injEq,Option.some.injEq,Addr.mk.injEq]at e;have:=h.new bb hm;omega
def SinceSays(W0:World)(N b p:Nat)(r:Int×LG)(e:Ending)(w':World):Prop:=e = .returned (.int .i64 r.1)∧∃v' fp' s',Since W0 N w' b p r.2 v' fp' s'
theorem Since.told{W0:World}{N M K b p:Nat}{w w':World}{g:LG}{v:WV}{fp:List Nat}{s:List Sv}{r:Int×LG}{e:Ending}(h:Since W0 N w b p g v fp s)(hs:LogSays M b r v fp w e w')(hm:M≤K):SinceSays W0 K b p r e w':=by
 obtain⟨h1,v',fp',s',h2⟩:=h.says hs;exact⟨h1,v',fp',s',h2.more hm⟩
set_option maxHeartbeats 4000000 in
theorem does5_any(W0:World)(N b p m:Nat)(k z:Int)(x:List Nat)(xv:Value)(g:LG)(v:WV)(fp:List Nat)(s:List Sv)(w:World)(h:Since W0 N w b p g v fp s)(hx:Row W0.heap.size W0 xv x)(hsm:GSm m g)(hm:m≤268435456)(hN:N<137438952000)(hl:x.length≤1099511627776):
 Calls Tryz.prog 15 #[.pointer (some ⟨b,0,none⟩),.agg #[.int .i64 k,.int .i64 z,xv]] w (SinceSays W0 (N+1000+m) b p (doesG g k z x)):=by
 have hok:=hsm.lok (by omega);have htl:=hsm.tl;have hlm:=hsm.many;obtain⟨hix,hixl⟩:=ixG_is g z;obtain⟨xa,xc,rfl,_⟩:=hx.shape
 have HA:Hid (∀W,Since W0 N W b p g v fp s→Calls Tryz.prog 28 #[.pointer (some ⟨b,0,none⟩),.slice xa x.length xc] W (SinceSays W0 (N+1000+m) b p (appG g x))):=fun W hW=>
  (App_any N b g v fp s x _ W hW.log (hW.row hx) hok (by omega) hl).mono (fun e w' hs=>hW.told hs (by omega))
 have HY:Hid (∀W,Since W0 N W b p g v fp s→Calls Tryz.prog 24 #[.pointer (some ⟨b,0,none⟩)] W (SinceSays W0 (N+1000+m) b p (syncG g))):=fun W hW=>
  (Sync_log N b g v fp s W hW.log hok (by omega)).mono (fun e w' hs=>hW.told hs (by omega))
 have HT:Hid (∀W,Since W0 N W b p g v fp s→Calls Tryz.prog 42 #[.pointer (some ⟨b,0,none⟩),.int .u64 (ixG g z:Int)] W (SinceSays W0 (N+1000+m) b p (truncG g (ixG g z)))):=fun W hW=>
  (Trunc_log N b _ g v fp s W hW.log hok (by omega) hixl).mono (fun e w' hs=>hW.told hs (by omega))
 have HC:Hid (∀W,Since W0 N W b p g v fp s→Calls Tryz.prog 29 #[.pointer (some ⟨b,0,none⟩),.int .u64 (ixG g z:Int)] W (SinceSays W0 (N+1000+m) b p (compG g (ixG g z)))):=fun W hW=>
  (Comp_log N b _ g v fp s W hW.log hok (by omega)).mono (fun e w' hs=>hW.told hs (by omega))
 have HS:Hid (∀ob k,Since W0 N ((w.alloc ob).drewN k) b p g v fp s):=fun ob k=>h.on (belowN ((Below.refl _ w).alloc (Nat.le_refl _) _) _)
 have hgf:=hok.recs;obtain⟨i,hi⟩:∃i,ixG g z=i:=⟨_,rfl⟩;have HD:Hid (doesG g k z x=if k=0 then appG g x else if k=1 then syncG g else if k=2 then truncG g i else if k=3 then compG g i else (0,g)):=by show _=_;rw[←hi];rfl
 rw[hi]at hix HT HC;clear h hx hok hsm hi htl hlm;by_cases k0:k=0
 · subst k0
   obtain⟨r,hr⟩:∃r,appG g x=r:=⟨_,rfl⟩;rw[hr]at HA;(have HD2:Hid (doesG g 0 z x=r):=by show _=_;rw[HD.out,if_pos rfl,hr]);clear HD hr;go_enter Tryz.func15,Tryz.ntmps15;go_wp2_with fail;go_quiet (first|(go_at_call 16;refine Calls.quiet_of_same (first_since (HS.out _ _) _ rfl)));go_wp2_with fail;refine(HA.out _ (HS.out _ _)).mono ?_;rintro e w1 ⟨rfl,v1,fp1,s1,hs1⟩;have HF:Hid (SinceSays W0 (N+1000+m) b p r (.returned (.int .i64 r.1)) w1):=⟨rfl,v1,fp1,s1,hs1⟩;clear hs1;go_wp2_with fail;go_ret;rw[HD2.out];exact HF.out
 by_cases k1:k=1
 · subst k1
   obtain⟨r,hr⟩:∃r,syncG g=r:=⟨_,rfl⟩;rw[hr]at HY;(have HD2:Hid (doesG g 1 z x=r):=by show _=_;rw[HD.out,if_neg (by decide),if_pos rfl,hr]);clear HD hr k0;go_enter Tryz.func15,Tryz.ntmps15;go_wp2_with fail;go_quiet (first|(go_at_call 16;refine Calls.quiet_of_same (first_since (HS.out _ _) _ rfl)));go_wp2_with fail;refine(HY.out _ (HS.out _ _)).mono ?_;rintro e w1 ⟨rfl,v1,fp1,s1,hs1⟩;have HF:Hid (SinceSays W0 (N+1000+m) b p r (.returned (.int .i64 r.1)) w1):=⟨rfl,v1,fp1,s1,hs1⟩;clear hs1;go_wp2_with fail;go_ret;rw[HD2.out];exact HF.out
 by_cases k2:k=2
 · subst k2
   obtain⟨r,hr⟩:∃r,truncG g i=r:=⟨_,rfl⟩;rw[hr]at HT;(have HD2:Hid (doesG g 2 z x=r):=by show _=_;rw[HD.out,if_neg (by decide),if_neg (by decide),if_pos rfl,hr]);clear HD hr k0 k1;go_enter Tryz.func15,Tryz.ntmps15;go_wp2_with fail;go_quiet (first|(go_at_call 16;refine Calls.quiet_of_same (first_since (HS.out _ _) _ rfl)));go_wp2_with fail;refine(HT.out _ (HS.out _ _)).mono ?_;rintro e w1 ⟨rfl,v1,fp1,s1,hs1⟩;have HF:Hid (SinceSays W0 (N+1000+m) b p r (.returned (.int .i64 r.1)) w1):=⟨rfl,v1,fp1,s1,hs1⟩;clear hs1;go_wp2_with fail;go_ret;rw[HD2.out];exact HF.out
 by_cases k3:k=3
 · subst k3
   obtain⟨r,hr⟩:∃r,compG g i=r:=⟨_,rfl⟩;rw[hr]at HC;(have HD2:Hid (doesG g 3 z x=r):=by show _=_;rw[HD.out,if_neg (by decide),if_neg (by decide),if_neg (by decide),if_pos rfl,hr]);clear HD hr k0 k1 k2;go_enter Tryz.func15,Tryz.ntmps15;go_wp2_with fail;go_quiet (first|(go_at_call 16;refine Calls.quiet_of_same (first_since (HS.out _ _) _ rfl)));go_wp2_with fail;refine(HC.out _ (HS.out _ _)).mono ?_;rintro e w1 ⟨rfl,v1,fp1,s1,hs1⟩;have HF:Hid (SinceSays W0 (N+1000+m) b p r (.returned (.int .i64 r.1)) w1):=⟨rfl,v1,fp1,s1,hs1⟩;clear hs1;go_wp2_with fail;go_ret;rw[HD2.out];exact HF.out
 have HD2:Hid (doesG g k z x=(0,g)):=by show _=_;rw[HD.out,if_neg k0,if_neg k1,if_neg k2,if_neg k3]
 have e0:(k==0)=false:=by simpa using k0
 have e1:(k==1)=false:=by simpa using k1
 have e2:(k==2)=false:=by simpa using k2
 have e3:(k==3)=false:=by simpa using k3
 clear HD k0 k1 k2 k3;go_enter Tryz.func15,Tryz.ntmps15;go_wp2_with fail;go_quiet (first|(go_at_call 16;refine Calls.quiet_of_same (first_since (HS.out _ _) _ rfl)));go_wp2_with fail;go_ret;rw[HD2.out];exact⟨rfl,v,fp,s,(HS.out _ _).more (by omega)⟩
end Go.Proofs.YthecngkdmnadoaaGreat
