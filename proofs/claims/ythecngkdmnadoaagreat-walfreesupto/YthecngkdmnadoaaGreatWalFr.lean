import Derived.Test.YthecngkdmnadoaaGreatG25
import Derived.Test.YthecngkdmnadoaaGreatSync
namespace Go.Proofs.YthecngkdmnadoaaGreat
open Go.RowKit
set_option maxRecDepth 100000
attribute [local go_sem] Oper.semAt_some
def behR(ix:Nat)(l:List Pl):List Pl:=(l.filter fun x=>decide (ix≤x.2)).reverse
def ffR(d:DS)(ar:Int)(ix:Nat)(l:List Pl):Int×DS:=if (l.any fun x=>decide (ix≤x.2))=true then (if stepE d=0 then frsR (syD d ar) (behR ix l)else (stepE d,syD d ar))else (0,d)
structure FrB(q b ix:Nat)(r:Int)(W:World):Prop where
 h0:∃T,W.heap[q]?=some (.cells #[.pointer (some ⟨b,0,none⟩)] T (0,0))
 h1:∃T,W.heap[q+1]?=some (.cells #[.int .u64 (ix:Int)] T (0,0))
 h2:∃T,W.heap[q+1+1]?=some (.cells #[.int .i64 r] T (0,0))
 h3:∃T,W.heap[q+1+1+1]?=some (.cells #[behindF (q+1)] T (0,0))
theorem lt_ofH{w:World}{k:Nat}{o:Obj}(h:w.heap[k]?=some o):k<w.heap.size:=(Array.getElem?_eq_some_iff.1 h).1
theorem FrB.lt{q b ix:Nat}{r:Int}{W:World}(h:FrB q b ix r W):q+1+1+1<W.heap.size:=by obtain⟨_,h⟩:=h.h3;exact lt_ofH h
theorem FrB.upd{q b ix:Nat}{r:Int}{W W':World}{F:Nat→Prop}(h:FrB q b ix r W)(u:Upd F W W')(hF:∀k,q≤k→k≤q+1+1+1→¬F k):FrB q b ix r W':=by
 obtain⟨⟨T0,a0⟩,⟨T1,a1⟩,⟨T2,a2⟩,⟨T3,a3⟩⟩:=h;exact⟨⟨T0,(u.block _ (lt_ofH a0) (hF _ (by omega) (by omega))).trans a0⟩,⟨T1,(u.block _ (lt_ofH a1) (hF _ (by omega) (by omega))).trans a1⟩,⟨T2,(u.block _ (lt_ofH a2) (hF _ (by omega) (by omega))).trans a2⟩,⟨T3,(u.block _ (lt_ofH a3) (hF _ (by omega) (by omega))).trans a3⟩⟩
theorem FrB.facts{q b ix:Nat}{r:Int}{W:World}(h:FrB q b ix r W):W.cell? ⟨q,0,none⟩=some (.pointer (some ⟨b,0,none⟩))∧W.cell? ⟨q+1,0,none⟩=some (.int .u64 (ix:Int))∧W.cell? ⟨q+1+1,0,none⟩=some (.int .i64 r)∧W.frozen? ⟨q+1+1,0,none⟩=false∧W.cell? ⟨q+1+1+1,0,none⟩=some (.func (.func 99) #[] #[.pointer (some ⟨q+1,0,none⟩)]):=by
 obtain⟨⟨T0,a0⟩,⟨T1,a1⟩,⟨T2,a2⟩,⟨T3,a3⟩⟩:=h;exact⟨by simp[World.cell?,a0],by simp[World.cell?,a1],by simp[World.cell?,a2],by simp[World.frozen?,a2],by simp[World.cell?,a3,behindF]⟩
theorem QOwn.ltB{B:Nat}{w:World}{ad:Option Addr}{n c:Nat}{l:List Pl}(h:QOwn B w (.slice ad n c) l):∀x∈ownB ad,x<w.heap.size:=by
 obtain⟨hl,⟨e,h0⟩|⟨g,cap,cur,e,hb,hh,h3,h4,h5,h6⟩⟩:=h
 · simp only[Value.slice.injEq]at e
   rw[e.1];intro x hx;simp[ownB]at hx
 · simp only[Value.slice.injEq]at e
   rw[e.1];intro x hx;simp[ownB]at hx;rw[hx];exact(Array.getElem?_eq_some_iff.1 hh).1
theorem fr_results{tmps:Array Value}{w:World}{rb:Nat}{r:Int}(h2:tmps.getD 6 undef = .pointer (some ⟨rb,0,none⟩))(c:w.cell? ⟨rb,0,none⟩=some (.int .i64 r)):(results Tryz.f77 tmps).run Tryz.prog w = .ok (.int .i64 r) w:=by
 have h2':tmps[6]?.getD undef = .pointer (some ⟨rb,0,none⟩):=by simpa using h2
 simp[results,Tryz.results77,go_sem,h2',c]
theorem FrB.put{q b ix:Nat}{r:Int}{W:World}(h:FrB q b ix r W)(r':Int):FrB q b ix r' (W.setCell ⟨q+1+1,0,none⟩ (.int .i64 r')):=by
 obtain⟨⟨T0,a0⟩,⟨T1,a1⟩,⟨T2,a2⟩,⟨T3,a3⟩⟩:=h;exact⟨⟨T0,(Below.heap_setCell _ _ _ _ (by show q≠q+1+1;omega)).trans a0⟩,⟨T1,(Below.heap_setCell _ _ _ _ (by show q+1≠q+1+1;omega)).trans a1⟩,⟨T2,by simp[World.setCell,Array.getElem?_modify,a2]⟩,⟨T3,(Below.heap_setCell _ _ _ _ (by show q+1+1+1≠q+1+1;omega)).trans a3⟩⟩
structure FrW(B N q b ix:Nat)(r:Int)(d:DS)(fp:List Nat)(n:WN)(v:WV)(l:List Pl)(W:World):Prop where
 fr:FrB q b ix r W
 disk:DiskAt N W v.p d fp
 wal:WalAt W b n v
 row:QOwn B W (.slice v.pa v.pn v.pc) l
theorem FrW.below{B N q b ix:Nat}{r:Int}{d:DS}{fp:List Nat}{n:WN}{v:WV}{l:List Pl}{W W':World}(h:FrW B N q b ix r d fp n v l W)(hb:Below W.heap.size W W'):FrW B N q b ix r d fp n v l W':=
 ⟨h.fr.upd (F:=fun _=>False) (Upd.of_below hb) (fun _ _ _ h=>h),h.disk.below hb,h.wal.below h.wal.lt hb,h.row.below hb⟩
theorem FrW.put{B N q b ix:Nat}{r:Int}{d:DS}{fp:List Nat}{n:WN}{v:WV}{l:List Pl}{W:World}(h:FrW B N q b ix r d fp n v l W)(hbq:b<q)(hfp:∀x∈fp,x≠q+1+1)(hpa:∀x∈ownB v.pa,x≠q+1+1)(r':Int):FrW B N q b ix r' d fp n v l (W.setCell ⟨q+1+1,0,none⟩ (.int .i64 r')):=by
 have ho:Only [q+1+1] W (W.setCell ⟨q+1+1,0,none⟩ (.int .i64 r')):=(Only.refl _ _).setCell (by simp) _ _;refine⟨h.fr.put r',h.disk.apart ho (fun x hx hx'=>hfp x hx (List.mem_singleton.1 hx')),(ho.block b h.wal.lt (fun hx=>by rw[List.mem_singleton]at hx;omega)).trans h.wal,h.row.only ho (fun ad n c e=>?_)⟩;simp only[Value.slice.injEq]at e;rw[←e.1];exact fun x hx hx'=>hpa x hx (List.mem_singleton.1 hx')
theorem behR_step(ix:Nat){l:List Pl}{m:Nat}{x:Pl}(h:l[m]?=some x):behR ix (l.take (m+1))=(if ix≤x.2 then [x]else [])++behR ix (l.take m):=by
 unfold behR;rw[take_succQ h,List.filter_append,List.reverse_append];congr 1;by_cases hx:ix≤x.2<;>simp[hx]
theorem FrB.updM{q b ix:Nat}{r:Int}{W W':World}{F:Nat→Prop}{M:Nat}(h:FrB q b ix r W)(u:Upd F W W')(hF:∀k,k<M→¬F k)(hq:q+1+1+1<M):FrB q b ix r W':=h.upd u (fun k _ h2=>hF k (by omega))
theorem FrW.updM{B N q b ix:Nat}{r:Int}{d:DS}{fp:List Nat}{n:WN}{v:WV}{l:List Pl}{W W':World}{F:Nat→Prop}{M:Nat}(h:FrW B N q b ix r d fp n v l W)(u:Upd F W W')(hF:∀k,k<M→¬F k)(hq:q+1+1+1<M)(hb:b<M)(hfp:∀x∈fp,x<M)(hpa:∀x∈ownB v.pa,x<M):FrW B N q b ix r d fp n v l W':=by
 refine⟨h.fr.updM u hF hq,h.disk.same (fun x hx=>u.block x (h.disk.lt x hx) (hF x (hfp x hx))),(u.block b h.wal.lt (hF b hb)).trans h.wal,?_⟩;obtain⟨hl,⟨e,h0⟩|⟨g,cap,cur,e,hbg,hh,h2⟩⟩:=id h.row
 · exact⟨hl,.inl ⟨e,h0⟩⟩
 · have e2:=e
   simp only[Value.slice.injEq]at e2;exact⟨hl,.inr ⟨g,cap,cur,e,hbg,(u.block g (Array.getElem?_eq_some_iff.1 hh).1 (hF g (hpa g (by rw[e2.1];simp[ownB])))).trans hh,h2⟩⟩
theorem FrW.more{B N M q b ix:Nat}{r:Int}{d:DS}{fp:List Nat}{n:WN}{v:WV}{l:List Pl}{W:World}(h:FrW B N q b ix r d fp n v l W)(hm:N≤M):FrW B M q b ix r d fp n v l W:=⟨h.fr,h.disk.mono hm,h.wal,h.row⟩
theorem FrW.only{B N M q b ix:Nat}{r:Int}{d d2:DS}{fp fp2:List Nat}{n:WN}{v:WV}{l:List Pl}{W W':World}(h:FrW B N q b ix r d fp n v l W)(ho:Only fp W W')(hD:DiskAt M W' v.p d2 fp2)(hq:∀x∈fp,x<q∨q+1+1+1<x)(hb:b∉fp)(hpa:∀x∈ownB v.pa,x∉fp):FrW B M q b ix r d2 fp2 n v l W':=by
 refine⟨h.fr.upd (Upd.of_only ho) (fun k h1 h2 hk=>by have:=hq k hk;omega),hD,(ho.block b h.wal.lt hb).trans h.wal,h.row.only ho (fun ad n c e=>?_)⟩;simp only[Value.slice.injEq]at e;rw[←e.1];exact hpa
structure FrI(B N q b ix bx:Nat)(d1:DS)(fp3:List Nat)(n:WN)(v:WV)(l:List Pl)(w4:World)(k:Nat)(V:World):Prop where
 ex:∃d' fp',FrW B (N+1+k) q b ix 0 d' fp' n v l V∧(∀x∈fp',x∈fp3)∧frsR d1 (behR ix l)=frsR d' (behR ix (l.take (l.length-k)))
 box:∃T,V.heap[bx]?=some (.cells #[.slice v.pa l.length v.pc] T (0,0))
 only:Only fp3 w4 V
structure FrX(B N q b ix:Nat)(d1:DS)(fp3:List Nat)(n:WN)(v:WV)(l:List Pl)(w4:World)(V:World):Prop where
 ex:∃e d' fp',e≠0∧FrW B (N+1+l.length) q b ix e d' fp' n v l V∧(∀x∈fp',x∈fp3)∧frsR d1 (behR ix l)=(e,d')
 only:Only ((q+1+1)::fp3) w4 V
structure FrM(q b bx:Nat)(fp3:List Nat)(v:WV)(M:Nat):Prop where
 q:q+1+1+1<M
 b:b<M
 bx:bx<M
 fp:∀x∈fp3,x<M
 pa:∀x∈ownB v.pa,x<M
theorem FrI.upd{B N q b ix bx:Nat}{d1:DS}{fp3:List Nat}{n:WN}{v:WV}{l:List Pl}{w4:World}{k:Nat}{V V':World}{F:Nat→Prop}(h:FrI B N q b ix bx d1 fp3 n v l w4 k V)(hM:FrM q b bx fp3 v w4.heap.size)(u:Upd F V V')(hF:∀k,k<w4.heap.size→¬F k):FrI B N q b ix bx d1 fp3 n v l w4 k V':=by
 obtain⟨⟨d',fp',h1,h2,h3⟩,⟨T,h4⟩,h5⟩:=h;exact⟨⟨d',fp',h1.updM u hF hM.q hM.b (fun x hx=>hM.fp x (h2 x hx)) hM.pa,h2,h3⟩,⟨T,(u.block bx (lt_ofH h4) (hF bx hM.bx)).trans h4⟩,⟨u.os.trans h5.os,u.tape.trans h5.tape,u.output.trans h5.output,Nat.le_trans h5.size u.size,fun j hj hn=>(u.block j (Nat.lt_of_lt_of_le hj h5.size) (hF j hj)).trans (h5.block j hj hn)⟩⟩
theorem FrX.upd{B N q b ix bx:Nat}{d1:DS}{fp3:List Nat}{n:WN}{v:WV}{l:List Pl}{w4:World}{V V':World}{F:Nat→Prop}(h:FrX B N q b ix d1 fp3 n v l w4 V)(hM:FrM q b bx fp3 v w4.heap.size)(u:Upd F V V')(hF:∀k,k<w4.heap.size→¬F k):FrX B N q b ix d1 fp3 n v l w4 V':=by
 obtain⟨⟨e,d',fp',h0,h1,h2,h3⟩,h5⟩:=h;exact⟨⟨e,d',fp',h0,h1.updM u hF hM.q hM.b (fun x hx=>hM.fp x (h2 x hx)) hM.pa,h2,h3⟩,⟨u.os.trans h5.os,u.tape.trans h5.tape,u.output.trans h5.output,Nat.le_trans h5.size u.size,fun j hj hn=>(u.block j (Nat.lt_of_lt_of_le hj h5.size) (hF j hj)).trans (h5.block j hj hn)⟩⟩
set_option maxHeartbeats 1000000 in
theorem freeFrom_any(B N b ix:Nat)(ar:Int)(d:DS)(fp:List Nat)(n:WN)(v:WV)(l:List Pl)(w:World)(h:DiskAt N w v.p d fp)(hw:WalAt w b n v)(hN:N<549755813888)(hq:QOwn B w (.slice v.pa v.pn v.pc) l)(hkn:v.pn<549755813888)
 (hbf:b∉fp) (hgf:∀x∈ownB v.pa,x∉fp∧x≠b) (hl:∀x∈l,x.1≤1152921504606846976):
 Calls Tryz.prog 77 #[.pointer (some ⟨b,0,none⟩),.int .u64 (ix:Int),.int .u64 ar] w fun e w'=>e = .returned (.int .i64 (ffR d ar ix l).1)∧(∃fp',DiskAt (N+l.length+1) w' v.p (ffR d ar ix l).2 fp'∧∀x∈fp',x∈fp∨w.heap.size≤x)∧Only (b::(ownB v.pa++fp)) w w' ∧
  (((ffR d ar ix l).1=0∧WalAt w' b n { v with pn:=(keepQ ix l).length }∧QOwn B w' (.slice v.pa (keepQ ix l).length v.pc) (keepQ ix l))∨((ffR d ar ix l).1≠0∧WalAt w' b n v∧QOwn B w' (.slice v.pa v.pn v.pc) l)):=by
 have hlen:v.pn=l.length:=by
  obtain⟨ad,cap,e⟩:=hq.shape;simp only[Value.slice.injEq]at e;exact e.2.1
 obtain⟨q,hqs⟩:∃q,w.heap.size=q:=⟨_,rfl⟩;obtain⟨V1,hV1⟩:∃V1,w.alloc (.cells #[.pointer (some ⟨b,0,none⟩)] 27)=V1:=⟨_,rfl⟩;obtain⟨V2,hV2⟩:∃V2,V1.alloc (.cells #[.int .u64 (ix:Int)] 22)=V2:=⟨_,rfl⟩;obtain⟨V3,hV3⟩:∃V3,V2.alloc (.cells #[.int .i64 0] 28)=V3:=⟨_,rfl⟩;have e1:V1.heap.size=q+1:=by rw[←hV1,←hqs];simp
 have e2:V2.heap.size=q+1+1:=by rw[←hV2,←e1];simp
 have e3:V3.heap.size=q+1+1+1:=by rw[←hV3,←e2];simp
 obtain⟨V4,hV4⟩:∃V4,V3.alloc (.cells #[.nilFunc] 148)=V4:=⟨_,rfl⟩;have e4:V4.heap.size=q+1+1+1+1:=by rw[←hV4,←e3];simp
 have hn4:V4.heap[q+1+1+1]?=some (.cells #[.nilFunc] 148 (0,0)):=by rw[←hV4,←e3];show(V3.heap.push _)[_]?=_;simp
 have c4:V4.cell? ⟨q+1+1+1,0,none⟩=some .nilFunc:=by simp[World.cell?,hn4]
 have f4:V4.frozen? ⟨q+1+1+1,0,none⟩=false:=by simp[World.frozen?,hn4]
 obtain⟨V5,hV5⟩:∃V5,V4.setCell ⟨q+1+1+1,0,none⟩ (.func (.func 99) #[] #[.pointer (some ⟨q+1,0,none⟩)])=V5:=⟨_,rfl⟩;have hst:(store ⟨q+1+1+1,0,none⟩ (.func (.func 99) #[] #[.pointer (some ⟨q+1,0,none⟩)])).run Tryz.prog V4 = .ok () V5:=by
  rw[←hV5];exact(run_store Tryz.prog V4 _ _ _ rfl).trans (by simp[c4,f4])
 have hn1:V1.heap[q]?=some (.cells #[.pointer (some ⟨b,0,none⟩)] 27 (0,0)):=by rw[←hV1,←hqs];show(w.heap.push _)[_]?=_;simp
 have hn2:V2.heap[q+1]?=some (.cells #[.int .u64 (ix:Int)] 22 (0,0)):=by rw[←hV2,←e1];show(V1.heap.push _)[_]?=_;simp
 have hn3:V3.heap[q+1+1]?=some (.cells #[.int .i64 0] 28 (0,0)):=by rw[←hV3,←e2];show(V2.heap.push _)[_]?=_;simp
 have B1:Below q w V1:=by rw[←hV1,←hqs];exact(Below.refl _ _).alloc (Nat.le_refl _) _
 have B2:Below (q+1) V1 V2:=by rw[←hV2,←e1];exact(Below.refl _ _).alloc (Nat.le_refl _) _
 have B3:Below (q+1+1) V2 V3:=by rw[←hV3,←e2];exact(Below.refl _ _).alloc (Nat.le_refl _) _
 have B4:Below (q+1+1+1) V3 V4:=by rw[←hV4,←e3];exact(Below.refl _ _).alloc (Nat.le_refl _) _
 have B5:Below (q+1+1+1) V4 V5:=by rw[←hV5];exact Below.setCell (Below.refl _ V4) (p:=⟨q+1+1+1,0,none⟩) (Nat.le_refl _) _
 have hn5:V5.heap[q+1+1+1]?=some (.cells #[behindF (q+1)] 148 (0,0)):=by
  rw[←hV5];simp[World.setCell,Array.getElem?_modify,hn4,behindF]
 have B35:=B4.trans B5;have hfr:FrB q b ix 0 V5:=⟨⟨_,(B35.block q (by omega)).trans ((B3.block q (by omega)).trans ((B2.block q (by omega)).trans hn1))⟩,⟨_,(B35.block _ (by omega)).trans ((B3.block _ (by omega)).trans hn2)⟩,⟨_,(B35.block _ (by omega)).trans hn3⟩,⟨_,hn5⟩⟩;have B05:Below w.heap.size w V5:=by rw[hqs];exact((B1.trans (B2.mono (by omega))).trans (B3.mono (by omega))).trans (B35.mono (by omega))
 have hbq:b<q:=by rw[←hqs];exact hw.lt
 have hfq:∀x∈fp,x<q:=fun x hx=>by rw[←hqs];exact h.lt x hx
 have hpq:∀x∈ownB v.pa,x<q:=fun x hx=>by rw[←hqs];exact QOwn.ltB hq x hx
 have HS:Hid (FrW B N q b ix 0 d fp n v l V5):=⟨hfr,h.below B05,hw.below hw.lt B05,hq.below B05⟩;have HX:Hid (b<q∧(∀x∈fp,x<q)∧(∀x∈ownB v.pa,x<q)∧w.heap.size=q∧V5.heap.size=q+1+1+1+1∧Below q w V5):=⟨hbq,hfq,hpq,hqs,by rw[←hV5];simpa[World.setCell]using e4,by rw[←hqs];exact B05⟩;have HL:Hid ((∀x∈l,x.1≤1152921504606846976)∧b∉fp∧(∀x∈ownB v.pa,x∉fp∧x≠b)∧v.pn=l.length):=⟨hl,hbf,hgf,hlen⟩;obtain⟨t,ht⟩:∃t,(l.any fun x=>decide (ix≤x.2))=t:=⟨_,rfl⟩;have HCF:Hid (Calls Tryz.prog 100 #[.slice v.pa v.pn v.pc,.func (.func 99) #[] #[.pointer (some ⟨q+1,0,none⟩)]] V5.drew fun e w'=>e = .returned (.bool t)∧Below V5.drew.heap.size V5.drew w'):=by
  have:=containsFuncQ_any (q+1) ix V5.drew (.slice v.pa v.pn v.pc) l (HS.out.row.row.below (Below.refl _ V5).drew) (by omega) (show V5.drew.cell? _=_ from hfr.facts.2.1);rw[ht]at this;exact this
 have HT:Hid ((l.any fun x=>decide (ix≤x.2))=t):=ht;obtain⟨y0,_,_,_,y3⟩:=hfr.facts;obtain⟨x0,_,_,x3,_⟩:=HS.out.wal.cells;obtain⟨p,hp⟩:∃p,v.p=p:=⟨_,rfl⟩;obtain⟨pa,hpa⟩:∃pa,v.pa=pa:=⟨_,rfl⟩;obtain⟨pn,hpn⟩:∃pn,v.pn=pn:=⟨_,rfl⟩;obtain⟨pc,hpc⟩:∃pc,v.pc=pc:=⟨_,rfl⟩;rw[hp]at x0;rw[hpa,hpn,hpc]at x3 HCF;have HV:Hid (v.p=p∧v.pa=pa∧v.pn=pn∧v.pc=pc):=⟨hp,hpa,hpn,hpc⟩;clear hn1 hn2 hn3 hn4 B1 B2 B3 B4 B5 hn5 B35 hfr B05 hbq hfq hpq h hw hq hbf hgf hl hlen c4 f4 ht hp hpa hpn hpc;refine(callsIn_wide (n:=0)).1 (callsIn_of_wp_marks Tryz.func77 rfl trivial ?_ rfl);refine wpIn_wide.2 ?_;simp only[Tryz.ntmps77,List.size_toArray,List.length_cons,List.length_nil,Nat.reduceAdd,Nat.reduceSub,Array.replicate_succ,Array.replicate_zero,List.push_toArray,List.append_toArray,List.nil_append,List.cons_append];go_wp2;have hS0:V5.drew.cell? ⟨q,0,none⟩=some (.pointer (some ⟨b,0,none⟩))∧V5.drew.cell? ⟨b,3,none⟩=some (.slice pa pn pc)∧V5.drew.cell? ⟨q+1+1+1,0,none⟩=some (.func (.func 99) #[] #[.pointer (some ⟨q+1,0,none⟩)]):=⟨y0,x3,y3⟩;refine wp_region_noPanic ?_;refine region_at (S:=fun W=>W.cell? ⟨q,0,none⟩=some (.pointer (some ⟨b,0,none⟩))∧W.cell? ⟨b,3,none⟩=some (.slice pa pn pc)∧W.cell? ⟨q+1+1+1,0,none⟩=some (.func (.func 99) #[] #[.pointer (some ⟨q+1,0,none⟩)])) 7 rfl (by kernel_rfl) hS0 (fun _=>?_);refine tq4 id 0 13 1 14 2 15 3 16 ?_;simp only[sZa,sZb,sZc];refine tq id 4 17 ?_;simp only[sZa,sZb,sZc];refine one_call (i:=5) (w0:=V5.drew) 18 100 #[.slice pa pn pc,.func (.func 99) #[] #[.pointer (some ⟨q+1,0,none⟩)]] (by kernel_rfl) rfl rfl (by rfl) (by kernel_rfl) ?_;refine HCF.out.mono ?_;rintro e w2 ⟨rfl,hb2⟩;have HS2:Hid (FrW B N q b ix 0 d fp n v l w2∧Below V5.heap.size V5 w2):=⟨HS.out.below ((Below.refl _ V5).drew.trans hb2),(Below.refl _ V5).drew.trans hb2⟩;have hS2:w2.cell? ⟨q,0,none⟩=some (.pointer (some ⟨b,0,none⟩))∧w2.cell? ⟨b,3,none⟩=some (.slice pa pn pc)∧w2.cell? ⟨q+1+1+1,0,none⟩=some (.func (.func 99) #[] #[.pointer (some ⟨q+1,0,none⟩)]):=by
  have h1:=HS2.out.1.fr.facts;have h2:=HS2.out.1.wal.cells;rw[HV.out.2.1,HV.out.2.2.1,HV.out.2.2.2]at h2;exact⟨h1.1,h2.2.2.2.1,h1.2.2.2.2⟩
 refine⟨_,rfl,hS2,fun _=>?_⟩;simp only[sZa,sZb,sZc];refine one_value (i:=6) (v := .bool (!t)) (w':=w2) 19 (by kernel_rfl) rfl rfl (by rfl) (by kernel_rfl) hS2 (fun _=>?_);refine wpAnyH_done (by kernel_rfl) (NoPanic.normal ?_) _;simp only[sZa,sZb,sZc];have z2:w2.cell? ⟨q+1+1,0,none⟩=some (.int .i64 0):=HS2.out.1.fr.facts.2.2.1;have zf2:w2.frozen? ⟨q+1+1,0,none⟩=false:=HS2.out.1.fr.facts.2.2.2.1;cases t with
 |false=>
  have HFF:Hid (ffR d ar ix l=(0,d)):=by
   show _=_;exact(show ffR d ar ix l=(0,d)from by unfold ffR;rw[HT.out];rfl)
  have HKP:Hid (keepQ ix l=l):=keepQ_all fun x hx hle=>by
   have h1:=HT.out;rw[List.any_eq_false]at h1;exact h1 x hx (by simpa using hle)
  go_wp2;have hP:=HS2.out.1.put HX.out.1 (fun x hx=>by have:=HX.out.2.1 x hx;omega) (fun x hx=>by have:=HX.out.2.2.1 x hx;omega) 0;refine⟨_,fr_results rfl hP.fr.facts.2.2.1,?_⟩;rw[HFF.out,HKP.out];have hbW:Below w.heap.size w (w2.setCell ⟨q+1+1,0,none⟩ (.int .i64 0)):=by
   rw[HX.out.2.2.2.1];exact Below.setCell (HX.out.2.2.2.2.2.trans (HS2.out.2.mono (by have:=HX.out.2.2.2.2.1;omega))) (p:=⟨q+1+1,0,none⟩) (by show q≤q+1+1;omega) _
  refine⟨rfl,⟨fp,hP.disk.mono (by omega),fun x hx => .inl hx⟩,Only.of_below hbW,.inl ⟨rfl,?_,?_⟩⟩
  · rw[←HL.out.2.2.2];exact hP.wal
  · rw[←HL.out.2.2.2];exact hP.row
 |true=>
  have HSY:Hid (Calls Tryz.prog 26 #[.pointer (some ⟨p,0,none⟩),.int .u64 ar] w2 (SyncSays N p d fp ar w2)):=Sync_any N p d fp ar w2 (by rw[←HV.out.1];exact HS2.out.1.disk) (by omega);have u0:w2.cell? ⟨q,0,none⟩=some (.pointer (some ⟨b,0,none⟩)):=hS2.1;have u1:w2.cell? ⟨b,0,none⟩=some (.pointer (some ⟨p,0,none⟩)):=by rw[←HV.out.1];exact HS2.out.1.wal.cells.1
  obtain⟨se,hse⟩:∃se,stepE d=se:=⟨_,rfl⟩;have HSE:Hid (stepE d=se):=hse;have H3:Hid (∀w3 fp3,DiskAt (N+1) w3 p (syD d ar) fp3→Only fp w2 w3→FrW B (N+1) q b ix 0 (syD d ar) fp3 n v l w3):=fun w3 fp3 hD3 hO3=>by
   have h2:=HS2.out.1;have hu:=Upd.of_only hO3;refine⟨h2.fr.upd hu (fun k h1 _ hk=>by have:=HX.out.2.1 k hk;omega),by rw[HV.out.1];exact hD3,(hO3.block b h2.wal.lt HL.out.2.1).trans h2.wal,h2.row.only hO3 (fun ad n c e=>?_)⟩;simp only[Value.slice.injEq]at e;rw[←e.1];exact fun x hx=>(HL.out.2.2.1 x hx).1
  clear hse hS2 hS0 y0 y3 x0 x3 hV1 hV2 hV3 hV4 hV5 hst HCF;by_cases h0:se=0
  · subst h0
    go_wp2_with (first
     |(go_at_call 26;refine HSY.out.mono ?_;rintro e w3 ⟨he,fp3,hD3,hO3,hn3⟩;rw[HSE.out]at he;subst he;have H33:Hid (FrW B (N+1) q b ix 0 (syD d ar) fp3 n v l w3∧Only fp w2 w3∧(∀x∈fp3,x∈fp∨w2.heap.size≤x)):=⟨H3.out w3 fp3 hD3 hO3,hO3,hn3⟩;have u30:w3.cell? ⟨q,0,none⟩=some (.pointer (some ⟨b,0,none⟩)):=H33.out.1.fr.facts.1;have u33:w3.cell? ⟨b,3,none⟩=some (.slice pa pn pc):=(by have:=H33.out.1.wal.cells.2.2.2.1;rw[HV.out.2.1,HV.out.2.2.1,HV.out.2.2.2]at this;exact this);clear hD3 hO3 hn3 H3)
     |(go_at_call 101;go_loud (refine(BackwardQ_any _ _ _ _).mono ?_;rintro e w4 ⟨rfl,hw4⟩;have HW4:Hid (w4=w3.alloc (.cells #[.slice pa pn pc] 81)):=hw4;clear hw4)))
    have hw4:=HW4.out;(have hb34:Below w3.heap.size w3 w4:=by rw[hw4];exact(Below.refl _ _).alloc (Nat.le_refl _) _);(have hbx4:w4.heap[w3.heap.size]?=some (.cells #[.slice pa pn pc] 81 (0,0)):=by rw[hw4];show(w3.heap.push _)[_]?=_;simp);obtain⟨bx,hbx⟩:∃bx,w3.heap.size=bx:=⟨_,rfl⟩;rw[hbx]at hbx4 hb34 ⊢;(have hsz4:w4.heap.size=bx+1:=by rw[hw4,←hbx];simp);have hz:=HX.out.2.2.2.2.1;have hz2:=HS2.out.2.size;have hz3:=H33.out.2.1.size;have HM:Hid (FrM q b bx fp3 v w4.heap.size):=⟨by omega,by have:=HX.out.1;omega,by omega,fun x hx=>by have:=H33.out.1.disk.lt x hx;omega,fun x hx=>by have:=HX.out.2.2.1 x hx;omega⟩;have HI0:Hid (FrI B N q b ix bx (syD d ar) fp3 n v l w4 0 w4):=⟨⟨syD d ar,fp3,H33.out.1.below (by rw[hbx];exact hb34),fun _ h=>h,by rw[Nat.sub_zero,List.take_length]⟩,⟨_,by rw[←HL.out.2.2.2,HV.out.2.1,HV.out.2.2.1,HV.out.2.2.2];exact hbx4⟩,Only.refl _ _⟩;have HB34:Hid (Below bx w3 w4∧w3.heap.size=bx):=⟨hb34,hbx⟩;have HBASE:Hid (∀(f:List Nat) (W':World),Only f w4 W'→(∀x∈f,x∈b::(ownB v.pa++fp)∨w.heap.size≤x)→Only (b::(ownB v.pa++fp)) w W'):=fun f W' ho hf=>by
     have h1:Only fp w w3:=(Only.of_below (by rw[HX.out.2.2.2.1];exact HX.out.2.2.2.2.2.trans (HS2.out.2.mono (by omega)))).then H33.out.2.1 (fun _ h=>h);have h2:Only fp w w4:=h1.then (Only.of_below (fp:=fp) (by rw[hbx];exact hb34)) (fun _ h=>h);exact(h2.wider (fun x hx=>by simp[hx])).trans ho hf
    (have HFP3:Hid (∀x∈fp3,x∈fp∨w.heap.size≤x):=fun x hx=>(H33.out.2.2 x hx).imp id (fun h=>by have:=HX.out.2.2.2.1;omega));have eg:∀args w,(callFunc 99 args).run Tryz.prog w = .ok (.enter 99 args) w:=enters_of Tryz.func99 (by kernel_rfl) rfl;clear hb34 hbx4 hw4 HW4 hsz4 hz hz2 hz3 hbx;refine wp_rangeD (gf:=123) (lb:=#[.pointer (some ⟨bx,0,none⟩)]) rfl (enters_of Tryz.func123 (by kernel_rfl) rfl) (back_seqQ bx v.pa v.pc l (by have:=HL.out.2.2.2;omega)) (fun _=>rfl) (FrI B N q b ix bx (syD d ar) fp3 n v l w4) (fun _=>FrX B N q b ix (syD d ar) fp3 n v l w4) (fun k W hi=>?_) (fun k W W' hi hu=>hi.upd HM.out hu (fun j hj e=>by omega)) (fun k W W' hi hu=>hi.upd HM.out hu (fun j hj e=>by omega)) HI0.out ?_ ?_ ?_
    · obtain⟨⟨d',fp',h1,_⟩,⟨T,h4⟩,_⟩:=hi
      exact⟨by simp[World.cell?,h4],by have:=h1.row.row;rw[HL.out.2.2.2]at this;exact this⟩
    · rintro lp k V hk hi hlt
      obtain⟨x,hx⟩:∃x,l[l.length-1-k]?=some x:=⟨_,List.getElem?_eq_getElem (by omega)⟩;(have henc:l.getD (l.length-1-k) zPl=x:=by rw[List.getD_eq_getElem?_getD,hx];rfl);rw[henc];obtain⟨jx,hjx⟩:∃jx,l.length-1-k=jx:=⟨_,rfl⟩;rw[hjx];simp only[plV];have HI:Hid (FrI B N q b ix bx (syD d ar) fp3 n v l w4 k V):=hi;have HLT:Hid (w4.heap.size+1<V.heap.size):=hlt;have HK:Hid (k<l.length∧l.length-1-k=jx):=⟨hk,hjx⟩;(have HA:Hid (l[jx]?=some x):=by rw[←hjx];exact hx);clear hi hlt hk hx henc hjx
      gi_wp2
      refine⟨Upd.of_below ((Below.refl _ V).alloc (Nat.le_refl _) _),fun W2 hu2=>?_⟩;obtain⟨pb,hpb⟩:∃pb,V.heap.size=pb:=⟨_,rfl⟩;rw[hpb];have hua:Upd (fun j=>j=w4.heap.size∨j=w4.heap.size+1) V W2:=(Upd.of_below ((Below.refl _ V).alloc (Nat.le_refl _) _)).trans hu2 (fun j _ g => .inr g);have hI2:FrI B N q b ix bx (syD d ar) fp3 n v l w4 k W2:=HI.out.upd HM.out hua (fun j hj e=>by omega);have hlt:=HLT.out;have hpb2:W2.heap[pb]?=some (.cells #[.int .u64 (x.1:Int),.int .u64 (x.2:Int)] 115 (0,0)):=(hu2.block pb (by rw[←hpb];simp) (by omega)).trans (by rw[←hpb];show(V.heap.push _)[_]?=_;simp);have HPB:Hid (W2.heap[pb]?=some (.cells #[.int .u64 (x.1:Int),.int .u64 (x.2:Int)] 115 (0,0))∧w4.heap.size+1<pb∧w4.heap.size+1<W2.heap.size):=⟨hpb2,by omega,Nat.lt_of_lt_of_le hlt hua.size⟩;(have a0:W2.cell? ⟨pb,0,none⟩=some (.int .u64 (x.1:Int)):=by simp[World.cell?,hpb2]);(have a1:W2.cell? ⟨pb,1,none⟩=some (.int .u64 (x.2:Int)):=by simp[World.cell?,hpb2]);obtain⟨d',fp',hW2,hs2,hr2⟩:=hI2.ex;have HW2:Hid (FrW B (N+1+k) q b ix 0 d' fp' n v l W2∧(∀y∈fp',y∈fp3)∧frsR (syD d ar) (behR ix l)=frsR d' (behR ix (l.take (l.length-k)))∧Only fp3 w4 W2∧(∃T,W2.heap[bx]?=some (.cells #[.slice v.pa l.length v.pc] T (0,0)))):=⟨hW2,hs2,hr2,hI2.only,hI2.box⟩;have a7:W2.cell? ⟨q+1+1+1,0,none⟩=some (.func (.func 99) #[] #[.pointer (some ⟨q+1,0,none⟩)]):=hW2.fr.facts.2.2.2.2;have HBH:Hid (Calls Tryz.prog 99 #[.agg #[.int .u64 (x.1:Int),.int .u64 (x.2:Int)],.pointer (some ⟨q+1,0,none⟩)] W2 fun e w'=>e = .returned (.bool (decide (ix≤x.2)))∧Below W2.heap.size W2 w'):=behind_any (q+1) ix x W2 hW2.fr.facts.2.1;have HST:Hid (behR ix (l.take (l.length-k))=(if ix≤x.2 then [x]else [])++behR ix (l.take (l.length-(k+1)))):=by
       have h1:=HK.out;show _=_;rw[show l.length-k=jx+1 by omega,show l.length-(k+1)=jx by omega];exact behR_step ix HA.out
      clear hua hu2 hI2 hlt hpb2 hW2 hs2 hr2 hpb;by_cases hix:ix≤x.2
      · rw[if_pos hix]at HST
        rw[decide_eq_true hix]at HBH;clear hix
        gi_wp2_with (refine⟨trivial,by first|rfl|simp[Fence.wide],?_⟩;gi_at_call 99;refine(CallsIn.inRound lp (callsIn_wide.2 HBH.out)).mono ?_;rintro e W5 ⟨rfl,hb5⟩;have HB5:Hid (Below W2.heap.size W2 W5):=hb5;clear hb5)
        have hW5:=HW2.out.1.below HB5.out;have hS5:W5.drew.cell? ⟨q,0,none⟩=some (.pointer (some ⟨b,0,none⟩))∧W5.drew.cell? ⟨b,0,none⟩=some (.pointer (some ⟨p,0,none⟩))∧W5.drew.cell? ⟨pb,0,none⟩=some (.int .u64 (x.1:Int)):=⟨hW5.fr.facts.1,by rw[←HV.out.1];exact hW5.wal.cells.1,(HB5.out.cell (p:=⟨pb,0,none⟩) (lt_ofH HPB.out.1)).trans a0⟩;have HF5:Hid (FrW B (N+1+k) q b ix 0 d' fp' n v l W5.drew∧Below W2.heap.size W2 W5.drew):=⟨hW5.below (Below.refl _ W5).drew,HB5.out.drew⟩;have hk1:=HK.out.1;have hpn:=HL.out.2.2.2;clear hW5 a0 a1 a7;refine round_at (S:=fun W=>W.cell? ⟨q,0,none⟩=some (.pointer (some ⟨b,0,none⟩))∧W.cell? ⟨b,0,none⟩=some (.pointer (some ⟨p,0,none⟩))∧W.cell? ⟨pb,0,none⟩=some (.int .u64 (x.1:Int))) 9 rfl (by kernel_rfl) (by kernel_rfl) (by rintro⟨_,_,h⟩;exact h) hS5 (fun _=>?_);refine tq4 id 0 40 1 41 2 42 3 43 ?_;simp only[sZa,sZb,sZc];refine tq2 id 4 44 5 45 ?_;simp only[sZa,sZb,sZc];refine one_call (i:=6) (w0:=W5.drew) 46 38 #[.int .u64 (x.1:Int)] (by kernel_rfl) rfl rfl (by rfl) (by kernel_rfl) ?_;refine(areaOf_any x.1 _ (HL.out.1 x (List.mem_of_getElem? HA.out))).mono ?_;rintro e w6 ⟨rfl,hw6⟩;subst w6;refine⟨_,rfl,hS5,fun _=>?_⟩;simp only[sZa,sZb,sZc];refine one_call (i:=7) (w0:=W5.drew) 47 27 #[.pointer (some ⟨p,0,none⟩),.int .u64 ((4*x.1+1:Nat):Int)] (by kernel_rfl) rfl rfl (by rfl) (by kernel_rfl) ?_;refine(Free_any (N+1+k) p d' fp' _ _ (by rw[←HV.out.1];exact HF5.out.1.disk) (by omega)).mono ?_;rintro e w7 ⟨rfl,fp7,hD7,hO7,hs7⟩;have hnq:∀y∈fp',y<q∨q+1+1+1<y:=fun y hy=>by
         rcases H33.out.2.2 y (HW2.out.2.1 y hy)with h|h
         · exact .inl (HX.out.2.1 y h)
         · have h1:=HX.out.2.2.2.2.1
           have h2:=HS2.out.2.size;exact .inr (by omega)
        have hold:∀y,y<q→y∈fp'→y∈fp:=fun y hy hm=>by
         rcases H33.out.2.2 y (HW2.out.2.1 y hm)with h|h
         · exact h
         · have h1:=HX.out.2.2.2.2.1
           have h2:=HS2.out.2.size;omega
        have hF7:FrW B (N+1+k+1) q b ix 0 (frD d' ((4*x.1+1:Nat):Int)) fp7 n v l w7:=HF5.out.1.only hO7 (by rw[HV.out.1];exact hD7) hnq (fun h=>HL.out.2.1 (hold b HX.out.1 h)) (fun y hy h=>(HL.out.2.2.1 y hy).1 (hold y (HX.out.2.2.1 y hy) h));have hpb7:w7.cell? ⟨pb,0,none⟩=some (.int .u64 (x.1:Int)):=by
         have h1:=HPB.out;have h2:=hO7.block pb (by have:=lt_ofH h1.1;have:=HF5.out.2.size;show pb<W5.drew.heap.size;omega) (fun h=>by have:=HM.out.fp pb (HW2.out.2.1 pb h);omega);unfold World.cell?;rw[h2];exact hS5.2.2
        have hS7:w7.cell? ⟨q,0,none⟩=some (.pointer (some ⟨b,0,none⟩))∧w7.cell? ⟨b,0,none⟩=some (.pointer (some ⟨p,0,none⟩))∧w7.cell? ⟨pb,0,none⟩=some (.int .u64 (x.1:Int)):=⟨hF7.fr.facts.1,by rw[←HV.out.1];exact hF7.wal.cells.1,hpb7⟩;refine⟨_,rfl,hS7,fun _=>?_⟩;simp only[sZa,sZb,sZc];refine one_value (i:=8) (v := .int .i64 (frE d')) (w':=w7) 11 (by kernel_rfl) rfl rfl (by rfl) (by kernel_rfl) hS7 (fun _=>?_);refine wpAnyH_done (by kernel_rfl) ?_ _;simp only[sZa,sZb,sZc];have HF7:Hid (FrW B (N+1+k+1) q b ix 0 (frD d' ((4*x.1+1:Nat):Int)) fp7 n v l w7∧(∀y∈fp7,y∈fp3)∧Only fp3 w4 w7∧Upd (fun j=>j∈fp') W2 w7∧(∃T,w7.heap[bx]?=some (.cells #[.slice v.pa l.length v.pc] T (0,0)))):=by
         have h5:=HF5.out.2;have u27:Upd (fun j=>j∈fp') W2 w7:=(Upd.of_below h5).trans (Upd.of_only hO7) (fun _ _ h=>h);have hfp:=HW2.out.2.1;refine⟨hF7,fun y hy=>hfp y (hs7 y hy),(HW2.out.2.2.2.1.then (u27.only (fun _ _ h=>h)) hfp),u27,?_⟩;obtain⟨T,hT⟩:=HW2.out.2.2.2.2;refine⟨T,(u27.block bx (lt_ofH hT) (fun h=>?_)).trans hT⟩;have h1:=H33.out.1.disk.lt bx (hfp bx h);have h2:=HB34.out.2;omega
        have u72:w7.cell? ⟨q+1+1,0,none⟩=some (.int .i64 0):=hF7.fr.facts.2.2.1;have uf72:w7.frozen? ⟨q+1+1,0,none⟩=false:=hF7.fr.facts.2.2.2.1;clear hD7 hO7 hs7 hnq hold hF7 hpb7 hS7 hS5;obtain⟨fe,hfe⟩:∃fe,frE d'=fe:=⟨_,rfl⟩;have HFE:Hid (frE d'=fe):=hfe;rw[hfe];clear hfe;by_cases h0:fe=0
        · subst h0
          gi_wp2
          refine⟨⟨_,HF7.out.2.2.2.1,fun h=>by have:=HM.out.fp _ (HW2.out.2.1 _ h);omega,fun h=>by have:=HM.out.fp _ (HW2.out.2.1 _ h);omega⟩,⟨_,fp7,HF7.out.1,HF7.out.2.1,?_⟩,HF7.out.2.2.2.2,HF7.out.2.2.1⟩;rw[HW2.out.2.2.1,HST.out,List.singleton_append,frsR,if_pos HFE.out]
        · have h0q:(fe==0)=false:=by simpa using h0
          have HNE:Hid (fe≠0):=h0;clear h0
          gi_wp2
          have hP:=(HF7.out.1.more (M:=N+1+l.length) (by omega)).put HX.out.1 (fun y hy=>by
           rcases H33.out.2.2 y (HF7.out.2.1 y hy)with h|h
           · have:=HX.out.2.1 y h;omega
           · have h1:=HX.out.2.2.2.2.1;have h2:=HS2.out.2.size;omega) (fun y hy=>by have:=HX.out.2.2.1 y hy;omega) fe
          have hq4:=HM.out.q;have ho1:Only [q+1+1] w7 (w7.setCell ⟨q+1+1,0,none⟩ (.int .i64 fe)):=(Only.refl _ _).setCell (by simp) _ _;refine⟨⟨fun j=>j∈fp'∨j=q+1+1,(HF7.out.2.2.2.1.mono (fun _ h => .inl h)).trans (Upd.of_only ho1) (fun j _ h => .inr (List.mem_singleton.1 h)),fun h=>?_,fun h=>?_⟩,⟨fe,_,fp7,HNE.out,hP,HF7.out.2.1,?_⟩,(HF7.out.2.2.1.wider (fun y hy=>by simp[hy])).then ho1 (fun y hy=>by simp[List.mem_singleton.1 hy])⟩
          · rcases h with h|h
            · have:=HM.out.fp _ (HW2.out.2.1 _ h);omega
            · omega
          · rcases h with h|h
            · have:=HM.out.fp _ (HW2.out.2.1 _ h);omega
            · omega
          · rw[HW2.out.2.2.1,HST.out,List.singleton_append,frsR,if_neg (by rw[HFE.out];exact HNE.out),HFE.out]
      · rw[if_neg hix]at HST
        rw[decide_eq_false hix]at HBH;clear hix
        gi_wp2_with (refine⟨trivial,by first|rfl|simp[Fence.wide],?_⟩;gi_at_call 99;refine(CallsIn.inRound lp (callsIn_wide.2 HBH.out)).mono ?_;rintro e W5 ⟨rfl,hb5⟩;have HB5:Hid (Below W2.heap.size W2 W5):=hb5;clear hb5)
        obtain⟨T,hT⟩:=HW2.out.2.2.2.2;refine⟨⟨fun _=>False,Upd.of_below HB5.out,id,id⟩,⟨d',fp',(HW2.out.1.below HB5.out).more (by omega),HW2.out.2.1,?_⟩,⟨T,(HB5.out.block bx (lt_ofH hT)).trans hT⟩,HW2.out.2.2.2.1.then (Only.of_below (fp:=fp3) HB5.out) (fun _ h=>h)⟩;rw[HW2.out.2.2.1,HST.out];rfl
    · intro W hi hD
      obtain⟨⟨d',fp',hW,hs,hr⟩,_,hO4⟩:=hi;rw[Nat.sub_self,List.take_zero]at hr;have HR:Hid (frsR (syD d ar) (behR ix l)=(0,d')):=hr;have HD:Hid (W.heap[w4.heap.size]?=some (.deferred (some []))):=hD;have HW:Hid (FrW B (N+1+l.length) q b ix 0 d' fp' n v l W∧(∀y∈fp',y∈fp3)∧Only fp3 w4 W):=⟨hW,hs,hO4⟩;have hdl:=deleteFuncQ_any (q+1) ix B W.drew v.pa v.pc l (by have:=hW.row;rw[HL.out.2.2.2]at this;exact this) (by have:=HL.out.2.2.2;omega) (show W.drew.cell? _=_ from hW.fr.facts.2.1) (fun y hy e=>by have:=HX.out.2.2.1 y hy;omega);rw[←HL.out.2.2.2,HV.out.2.1,HV.out.2.2.1,HV.out.2.2.2]at hdl;unfold behindF at hdl;have HDL:Hid (Calls Tryz.prog 102 #[.slice pa pn pc,.func (.func 99) #[] #[.pointer (some ⟨q+1,0,none⟩)]] W.drew fun e w'=>e = .returned (.slice pa (keepQ ix l).length pc)∧QOwn B w' (.slice pa (keepQ ix l).length pc) (keepQ ix l)∧Only (ownB pa) W.drew w'):=hdl;obtain⟨db,hdb⟩:∃db,w4.heap.size=db:=⟨_,rfl⟩;have HDB:Hid (w4.heap.size=db):=hdb;rw[hdb]at HD;rw[hdb];have hS0:W.drew.cell? ⟨q,0,none⟩=some (.pointer (some ⟨b,0,none⟩))∧W.drew.cell? ⟨b,3,none⟩=some (.slice pa pn pc)∧W.drew.cell? ⟨q+1+1+1,0,none⟩=some (.func (.func 99) #[] #[.pointer (some ⟨q+1,0,none⟩)]):=⟨hW.fr.facts.1,by have:=hW.wal.cells.2.2.2.1;rw[HV.out.2.1,HV.out.2.2.1,HV.out.2.2.2]at this;exact this,hW.fr.facts.2.2.2.2⟩;clear hW hs hr hD hO4 hdl hdb;go_wp2;refine wp_region_noPanic ?_;refine region_atE (S:=fun W=>W.cell? ⟨q,0,none⟩=some (.pointer (some ⟨b,0,none⟩))∧W.cell? ⟨b,3,none⟩=some (.slice pa pn pc)∧W.cell? ⟨q+1+1+1,0,none⟩=some (.func (.func 99) #[] #[.pointer (some ⟨q+1,0,none⟩)])) 10 9 rfl (by kernel_rfl) ?_;refine te4 id 0 51 1 52 2 53 3 54 ?_;simp only[sZa,sZb,sZc];refine te2 id 4 55 5 56 ?_;simp only[sZa,sZb,sZc];refine one_callE (i:=6) (w0:=W.drew) 57 102 #[.slice pa pn pc,.func (.func 99) #[] #[.pointer (some ⟨q+1,0,none⟩)]] (by kernel_rfl) rfl rfl (by rfl) (by kernel_rfl) (HDL.out.mono ?_);rintro e w8 ⟨rfl,hq8,hO8⟩;(have hpaq:∀y∈ownB pa,y<q∧y∉fp∧y≠b:=fun y hy=>by rw[←HV.out.2.1]at hy;exact⟨HX.out.2.2.1 y hy,HL.out.2.2.1 y hy⟩);have hW0:=HW.out.1.below (Below.refl _ W).drew;have hfr8:FrB q b ix 0 w8:=hW0.fr.upd (Upd.of_only hO8) (fun k h1 h2 hk=>by have:=(hpaq k hk).1;omega);have hwal8:WalAt w8 b n v:=(hO8.block b hW0.wal.lt (fun h=>(hpaq b h).2.2 rfl)).trans hW0.wal;have hold:∀y,y<q→y∈fp'→y∈fp:=fun y hy hm=>by
       rcases H33.out.2.2 y (HW.out.2.1 y hm)with h|h
       · exact h
       · have h1:=HX.out.2.2.2.2.1
         have h2:=HS2.out.2.size;omega
      have hD8:DiskAt (N+1+l.length) w8 v.p d' fp':=hW0.disk.apart hO8 (fun y hy hp=>(hpaq y hp).2.1 (hold y (hpaq y hp).1 hy));have hS8:w8.cell? ⟨q,0,none⟩=some (.pointer (some ⟨b,0,none⟩))∧w8.cell? ⟨b,3,none⟩=some (.slice pa pn pc)∧w8.cell? ⟨q+1+1+1,0,none⟩=some (.func (.func 99) #[] #[.pointer (some ⟨q+1,0,none⟩)]):=⟨hfr8.facts.1,by have:=hwal8.cells.2.2.2.1;rw[HV.out.2.1,HV.out.2.2.1,HV.out.2.2.2]at this;exact this,hfr8.facts.2.2.2.2⟩;have hz8:w8.frozen? ⟨b,3,none⟩=false:=hwal8.cells.2.2.2.2.2.2.2.2.2.2 3;refine⟨_,rfl,hS8,?_⟩;simp only[sZa,sZb,sZc];refine one_valueE (i:=7) (v := .pointer (some ⟨b,0,none⟩)) (w':=w8) 58 (by kernel_rfl) rfl rfl (by rfl) (by kernel_rfl) hS8 ?_;simp only[sZa,sZb,sZc];refine one_valueE (i:=8) (v := .pointer (some ⟨b,3,none⟩)) (w':=w8) 59 (by kernel_rfl) rfl rfl (by rfl) (by kernel_rfl) hS8 ?_;simp only[sZa,sZb,sZc];have HQ8:Hid (QOwn B w8 (.slice pa (keepQ ix l).length pc) (keepQ ix l)∧Only (ownB pa) W.drew w8∧FrB q b ix 0 w8∧WalAt w8 b n v∧DiskAt (N+1+l.length) w8 v.p d' fp'∧(∀y∈ownB pa,y<q∧y∉fp∧y≠b)∧(∀y,y<q→y∈fp'→y∈fp)):=⟨hq8,hO8,hfr8,hwal8,hD8,hpaq,hold⟩;obtain⟨kl,hkl⟩:∃kl,(keepQ ix l).length=kl:=⟨_,rfl⟩;have HKL:Hid ((keepQ ix l).length=kl):=hkl;rw[hkl];have c83:=hS8.2.1;clear hq8 hO8 hfr8 hwal8 hD8 hpaq hold hS8 hS0 hW0 hkl HDL;refine last_skipE (w':=w8.setCell ⟨b,3,none⟩ (.slice pa kl pc)) (by kernel_rfl) rfl rfl (by rfl) (by go_simp;first|done|rfl) (by kernel_rfl) (NoPanic.normal ?_);have hkp:Only [b] w8 (w8.setCell ⟨b,3,none⟩ (.slice pa kl pc)):=(Only.refl _ _).setCell (by simp) _ _;have hbq:=HX.out.1;(have hnb:∀y∈fp',y≠b:=fun y hy e=>HL.out.2.1 (HQ8.out.2.2.2.2.2.2 b hbq (e▸hy)));have HF9:Hid (FrW B (N+1+l.length) q b ix 0 d' fp' n { v with pn:=kl } (keepQ ix l) (w8.setCell ⟨b,3,none⟩ (.slice pa kl pc))):=by
       refine⟨HQ8.out.2.2.1.upd (Upd.of_only hkp) (fun k h1 h2 hk=>by rw[List.mem_singleton]at hk;omega),HQ8.out.2.2.2.2.1.apart hkp (fun y hy hm=>hnb y hy (List.mem_singleton.1 hm)),?_,?_⟩
       · rw[←HV.out.2.1,←HV.out.2.2.2]
         exact HQ8.out.2.2.2.1.places kl
       · have h1:=HQ8.out.1
         show QOwn B _ (.slice v.pa kl v.pc) _;rw[HKL.out]at h1;rw[HV.out.2.1,HV.out.2.2.2];refine h1.only hkp (fun ad n c e=>?_);simp only[Value.slice.injEq]at e;rw[←e.1];exact fun y hy hm=>(HQ8.out.2.2.2.2.2.1 y hy).2.2 (List.mem_singleton.1 hm)
      obtain⟨w9,hw9⟩:∃w9,w8.setCell ⟨b,3,none⟩ (.slice pa kl pc)=w9:=⟨_,rfl⟩;rw[hw9]at hkp HF9 ⊢;have HO9:Hid (Only [b] w8 w9):=hkp;have u92:w9.cell? ⟨q+1+1,0,none⟩=some (.int .i64 0):=HF9.out.fr.facts.2.2.1;have uf92:w9.frozen? ⟨q+1+1,0,none⟩=false:=HF9.out.fr.facts.2.2.2.1;clear hkp hw9 hnb c83 hz8;go_wp2;have hq4:=HM.out.q;have hbM:=HM.out.b;have hdb:=HDB.out;rw[hdb]at hq4 hbM;(have hfpM:∀y∈fp',y<db:=fun y hy=>by rw[←hdb];exact HM.out.fp y (HW.out.2.1 y hy));(have hpaM:∀y∈ownB v.pa,y<db:=fun y hy=>by rw[←hdb];exact HM.out.pa y hy);have hnq:∀y∈fp',y≠q+1+1:=fun y hy=>by
       rcases H33.out.2.2 y (HW.out.2.1 y hy)with h|h
       · have:=HX.out.2.1 y h;omega
       · have h1:=HX.out.2.2.2.2.1;have h2:=HS2.out.2.size;omega
      have hP:=HF9.out.put HX.out.1 hnq (fun y hy=>by have:=HX.out.2.2.1 y hy;omega) 0;have ho1:Only [q+1+1] w9 (w9.setCell ⟨q+1+1,0,none⟩ (.int .i64 0)):=(Only.refl _ _).setCell (by simp) _ _;have hD8:w8.heap[db]?=some (.deferred (some [])):=(HQ8.out.2.1.block db (by have:=lt_ofH HD.out;exact this) (fun h=>by rw[←HV.out.2.1]at h;have:=hpaM db h;omega)).trans HD.out;have hD9:w9.heap[db]?=some (.deferred (some [])):=(HO9.out.block db (lt_ofH hD8) (fun h=>by rw[List.mem_singleton]at h;omega)).trans hD8;have hD10:(w9.setCell ⟨q+1+1,0,none⟩ (.int .i64 0)).heap[db]?=some (.deferred (some [])):=(ho1.block db (lt_ofH hD9) (fun h=>by rw[List.mem_singleton]at h;omega)).trans hD9;have hu11:Upd (fun k=>k=db) (w9.setCell ⟨q+1+1,0,none⟩ (.int .i64 0)) ((w9.setCell ⟨q+1+1,0,none⟩ (.int .i64 0)).putObj db (.deferred none)):=Upd.putR _ _;have hF:=hP.updM (M:=db) hu11 (fun k hk e=>by omega) hq4 hbM hfpM hpaM;refine⟨by simp,.inl ⟨_,_,rfl,run_takeDeferred hD10,_,fr_results rfl hF.fr.facts.2.2.1,?_⟩⟩;(have hff:ffR d ar ix l=(0,d'):=by unfold ffR;rw[HT.out,if_pos rfl,HSE.out,if_pos rfl,HR.out]);rw[hff];refine⟨rfl,⟨fp',hF.disk.mono (by omega),fun y hy=>HFP3.out y (HW.out.2.1 y hy)⟩,?_,.inl ⟨rfl,by rw[HKL.out];exact hF.wal,by rw[HKL.out];exact hF.row⟩⟩;refine HBASE.out ((fp3++ownB pa)++[b,q+1+1,db]) _ (((((HW.out.2.2.drew).wider (fun y hy=>by simp[hy])).then HQ8.out.2.1 (fun y hy=>by simp[hy])).then HO9.out (fun y hy=>by simp[List.mem_singleton.1 hy])).then ho1 (fun y hy=>by simp[List.mem_singleton.1 hy]) |>.then (hu11.only (fp:=[db]) (fun k _ e=>by simp[e])) (fun y hy=>by simp[List.mem_singleton.1 hy])) (fun y hy=>?_);have hqs2:=HX.out.2.2.2.1;simp only[List.mem_append,List.mem_cons,List.mem_nil_iff,or_false]at hy ⊢;rcases hy with(h|h)|h|h|h
      · rcases HFP3.out y h with h|h
        · exact .inl (.inr (.inr h))
        · exact .inr h
      · rw[←HV.out.2.1]at h;exact .inl (.inr (.inl h))
      · exact .inl (.inl h)
      · exact .inr (by omega)
      · exact .inr (by omega)
    · intro k W hk hx hD
      obtain⟨⟨e,d',fp',h0,hW,hs,hr⟩,hO⟩:=hx;have HXX:Hid (e≠0∧FrW B (N+1+l.length) q b ix e d' fp' n v l W∧(∀y∈fp',y∈fp3)∧frsR (syD d ar) (behR ix l)=(e,d')∧Only ((q+1+1)::fp3) w4 W∧W.heap[w4.heap.size]?=some (.deferred (some []))):=⟨h0,hW,hs,hr,hO,hD⟩;clear h0 hW hs hr hO hD;go_wp2;obtain⟨h0,hW,hs,hr,hO,hD⟩:=HXX.out;have hu11:Upd (fun k=>k=w4.heap.size) W (W.putObj w4.heap.size (.deferred none)):=Upd.putR _ _;have hF:=hW.updM (M:=w4.heap.size) hu11 (fun k hk e=>by omega) HM.out.q HM.out.b (fun y hy=>HM.out.fp y (hs y hy)) HM.out.pa;refine⟨by simp,.inl ⟨_,_,rfl,run_takeDeferred hD,_,fr_results rfl hF.fr.facts.2.2.1,?_⟩⟩;(have hff:ffR d ar ix l=(e,d'):=by unfold ffR;rw[HT.out,if_pos rfl,HSE.out,if_pos rfl,hr]);rw[hff];refine⟨rfl,⟨fp',hF.disk.mono (by omega),fun y hy=>HFP3.out y (hs y hy)⟩,?_,.inr ⟨h0,hF.wal,hF.row⟩⟩;refine HBASE.out (((q+1+1)::fp3)++[w4.heap.size]) _ ((hO.wider (fun y hy=>by simp only[List.mem_append];exact .inl hy)).then (hu11.only (fp:=[w4.heap.size]) (fun k _ e=>by simp[e])) (fun y hy=>by simp[List.mem_singleton.1 hy])) (fun y hy=>?_);have hqs2:=HX.out.2.2.2.1;have hq4:=HM.out.q;simp only[List.mem_append,List.mem_cons,List.mem_nil_iff,or_false]at hy ⊢;rcases hy with(h|h)|h
      · exact .inr (by omega)
      · rcases HFP3.out y h with h|h
        · exact .inl (.inr (.inr h))
        · exact .inr h
      · exact .inr (by omega)
  · have h0q:(se==0)=false:=by simpa using h0
    have HNE:Hid (se≠0):=h0;clear h0;go_wp2_with (go_at_call 26;refine HSY.out.mono ?_;rintro e w3 ⟨he,fp3,hD3,hO3,hn3⟩;rw[HSE.out]at he;subst he;have H33:Hid (FrW B (N+1) q b ix 0 (syD d ar) fp3 n v l w3∧Only fp w2 w3∧(∀x∈fp3,x∈fp∨w2.heap.size≤x)):=⟨H3.out w3 fp3 hD3 hO3,hO3,hn3⟩;have u32:w3.cell? ⟨q+1+1,0,none⟩=some (.int .i64 0):=H33.out.1.fr.facts.2.2.1;have uf3:w3.frozen? ⟨q+1+1,0,none⟩=false:=H33.out.1.fr.facts.2.2.2.1;clear hD3 hO3 hn3 H3);have hz:=HX.out.2.2.2.2.1;have hz2:=HS2.out.2.size;have hz3:=H33.out.2.1.size;have hP:=H33.out.1.put HX.out.1 (fun x hx=>by rcases H33.out.2.2 x hx with h|h<;>(try have:=HX.out.2.1 x h)<;>omega) (fun x hx=>by have:=HX.out.2.2.1 x hx;omega) se;refine⟨_,fr_results rfl hP.fr.facts.2.2.1,?_⟩;(have hff:ffR d ar ix l=(se,syD d ar):=by unfold ffR;rw[HT.out,if_pos rfl,HSE.out,if_neg HNE.out]);rw[hff];have ho:Only fp w w3:=(Only.of_below (by rw[HX.out.2.2.2.1];exact HX.out.2.2.2.2.2.trans (HS2.out.2.mono (by omega)))).then H33.out.2.1 (fun _ h=>h);have ho2:Only (b::(ownB v.pa++fp)) w (w3.setCell ⟨q+1+1,0,none⟩ (.int .i64 se)):=(ho.wider (fun x hx=>by simp[hx])).trans (fp':=[q+1+1]) ((Only.refl _ _).setCell (by simp) _ _) (fun x hx => .inr (by rw[List.mem_singleton]at hx;have:=HX.out.2.2.2.1;omega));exact⟨rfl,⟨fp3,hP.disk.mono (by omega),fun x hx=>(H33.out.2.2 x hx).imp id (fun h=>by have:=HX.out.2.2.2.1;omega)⟩,ho2,.inr ⟨HNE.out,hP.wal,hP.row⟩⟩
end Go.Proofs.YthecngkdmnadoaaGreat
