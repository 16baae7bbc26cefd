import Derived.Test.YtkdhdehobdfakaaGreatDoorMgMerge
import Derived.Test.YtkdhdehobdfakaaGreatDoorJ38
set_option maxRecDepth 100000
set_option maxHeartbeats 8000000
namespace Go.Proofs.YtkdhdehobdfakaaGreatDoor
section
open Go.RowKit Go.Shelf Go.Lib Nums Fm Pk Pm Fz Ed Lv
namespace Mg
theorem told_yes{w w':World}{l:List M}{over:List Pr}{word:List UInt8}{e:Int}{x:Ending}(hr:Go.Proofs.YtkdhdehobdfakaaGreatDoor.rightB word e=true)(h:∃v',x = .returned (.tuple #[v',.int .i64 0])∧MOwn w.heap.size w' v' (zEf zAa (zLy l (norm zAa over) word e))∧Below w.heap.size w w'):
 ∃ad cap,x = .returned (.tuple #[.slice ad (mgL l over word e).length cap,.int .i64 (allC word e)])∧MRow w' (.slice ad (mgL l over word e).length cap) (mgL l over word e)∧Below w.heap.size w w':=by
 obtain⟨v',rfl,h1,h2⟩:=h;have e1:mgL l over word e=zEf zAa (zLy l (norm zAa over) word e):=by unfold mgL;rw[if_pos hr]
 have e2:allC word e=0:=by unfold allC;rw[if_pos hr]
 rw[←e1]at h1;obtain⟨ad,cap,rfl⟩:=zH2 h1;exact⟨ad,cap,by rw[e2],own_row h1,h2⟩
theorem Merge_told(w:World)(ht:Tabs w)(u v:Value)(l:List M)(over:List Pr)(ws:ByteArray)(e:Int)(hu:MRow w u l)(hv:PRow w v over)(hs:Sm over)(hm:ws.size≤9223372036854775807)(hl:l.length<274877906944)(ho:over.length<274877906944)(hr:Go.Proofs.YtkdhdehobdfakaaGreatDoor.rightB ws.data.toList e=true)(h1:(mgL l over ws.data.toList e).length≤1):
 Calls Tryz.prog 33 #[u,v,.string ws,.int .i64 e] w fun x w'=>∃ad cap,x = .returned (.tuple #[.slice ad (mgL l over ws.data.toList e).length cap,.int .i64 (allC ws.data.toList e)])∧MRow w' (.slice ad (mgL l over ws.data.toList e).length cap) (mgL l over ws.data.toList e)∧Below w.heap.size w w':=
 (zY0 w ht u v l over ws e hu hv hs hm hl ho hr (by unfold mgL at h1;rw[if_pos hr,zTc]at h1;exact h1)).mono fun x w' h=>told_yes hr h
end Mg
namespace Di
def sugL(L:List Pr)(q:Mt):List Mt:=Bt.bestF (Bt.kk q.2.2) (allL L q.1.data.toList q.2.1)
structure Sqd(db wb qb:Nat)(v:Value)(q:Mt)(W:World):Prop where
 c0:W.cell? ⟨db,0,none⟩=some (.pointer (some ⟨wb,0,none⟩))
 c1:W.cell? ⟨db,1,none⟩=some v
 q0:W.cell? ⟨qb,0,none⟩=some (.string q.1)
 q1:W.cell? ⟨qb,1,none⟩=some (.int .i64 q.2.1)
 q2:W.cell? ⟨qb,2,none⟩=some (.int .i64 q.2.2)
theorem Sqd.facts{db wb qb:Nat}{v:Value}{q:Mt}{W:World}(h:Sqd db wb qb v q W):W.cell? ⟨db,0,none⟩=some (.pointer (some ⟨wb,0,none⟩))∧W.cell? ⟨db,1,none⟩=some v∧W.cell? ⟨qb,0,none⟩=some (.string q.1)∧W.cell? ⟨qb,1,none⟩=some (.int .i64 q.2.1)∧W.cell? ⟨qb,2,none⟩=some (.int .i64 q.2.2):=⟨h.1,h.2,h.3,h.4,h.5⟩
theorem Sqd.below{db wb qb:Nat}{v:Value}{q:Mt}{w w':World}(h:Sqd db wb qb v q w)(hb:Below w.heap.size w w'):Sqd db wb qb v q w':=by
 have ld:=World.block_lt_of_cell? _ _ h.c0;have lq:=World.block_lt_of_cell? _ _ h.q0;exact⟨(hb.cell (p:=⟨db,0,none⟩) ld).trans h.c0,(hb.cell (p:=⟨db,1,none⟩) ld).trans h.c1,(hb.cell (p:=⟨qb,0,none⟩) lq).trans h.q0,(hb.cell (p:=⟨qb,1,none⟩) lq).trans h.q1,(hb.cell (p:=⟨qb,2,none⟩) lq).trans h.q2⟩
theorem best_row{w':World}{v:Value}{l:List Mt}{B:Nat}(h:GOwn 52 3 B w' v (l.map Bt.cellsM)):∃ad n cap,v = .slice ad n cap∧MRow w' v l∧∀k,v.ownBlock=some k→B≤k:=by
 obtain⟨ad,cap,e,_⟩:=GOwn.shape h;exact⟨ad,_,cap,e,GOwn.reads h,fun _ hk=>(GOwn.block h hk).1⟩
theorem zP5(B:Nat)(w:World)(db lo hi wb:Nat)(v:Value)(base over:List Pr)(h:DictAt B w db lo hi wb v base over)(q:Mt)(hq:q.1.size≤9223372036854775807)(hr:Go.Proofs.YtkdhdehobdfakaaGreatDoor.rightB q.1.data.toList q.2.1=true)(h1:(allL (zAe zAa base over) q.1.data.toList q.2.1).length≤1):
 Calls Tryz.prog 14 #[.pointer (some ⟨db,0,none⟩),.agg #[.string q.1,.int .i64 q.2.1,.int .i64 q.2.2]] w fun e w'=>∃ad n cap,e = .returned (.tuple #[.slice ad n cap,.int .i64 (allC q.1.data.toList q.2.1)])∧MRow w' (.slice ad n cap) (sugL (zAe zAa base over) q)∧(∀k,(Value.slice ad n cap).ownBlock=some k→w.heap.size≤k)∧Below w.heap.size w w':=by
 obtain⟨vd,vc,hv⟩:=h.own.shape;obtain⟨vn,hvn⟩:∃vn,over.length=vn:=⟨_,rfl⟩;rw[hvn]at hv;subst hv;obtain⟨qb,hqb⟩:∃qb,qb=w.heap.size:=⟨_,rfl⟩;obtain⟨W0,hW0⟩:∃W0,W0=w.alloc (.cells #[.string q.1,.int .i64 q.2.1,.int .i64 q.2.2] 50):=⟨_,rfl⟩;have hb0:Below w.heap.size w W0:=by rw[hW0];exact(Below.refl _ w).alloc (Nat.le_refl _) _
 have hn0:W0.heap[qb]?=some (.cells #[.string q.1,.int .i64 q.2.1,.int .i64 q.2.2] 50):=by rw[hW0,hqb];exact zAb _ _
 have hsd:=h.sdb.below hb0;have hS0:Sqd db wb qb (.slice vd vn vc) q W0:=⟨hsd.c0,hsd.c1,by simp[World.cell?,hn0],by simp[World.cell?,hn0],by simp[World.cell?,hn0]⟩;have HS:Hid (∀W,Below W0.heap.size W0 W→Sqd db wb qb (.slice vd vn vc) q W):=fun W hW=>hS0.below hW
 have HB:Hid (∀W,Below W0.heap.size W0 W→Below w.heap.size w W):=fun W hW=>hb0.trans (hW.mono hb0.size)
 have hal:=zR6 base q.1.data.toList q.2.1;have hbl:=(zAp h.ok.ok).2.2;have hovl:=h.ok.few;have hmg:=Mg.mg_over (over:=over) (word:=q.1) (e:=q.2.1) h.ok.ok h.ok.all hr;have HALL:Hid (∀W,Below W0.heap.size W0 W→Calls Tryz.prog 32 #[.pointer (some ⟨wb,0,none⟩),.string q.1,.int .i64 q.2.1] W fun x w'=>∃ad cap,x = .returned (.tuple #[.slice ad (allL base q.1.data.toList q.2.1).length cap,.int .i64 (allC q.1.data.toList q.2.1)])∧MRow w' (.slice ad (allL base q.1.data.toList q.2.1).length cap) (allL base q.1.data.toList q.2.1)∧Below W.heap.size W w'):=fun W hW=>All_told W wb base (h.on.below (HB.out W hW)) q.1 q.2.1 hq
 have HMG:Hid (∀W a,Below W0.heap.size W0 W→MRow W a (allL base q.1.data.toList q.2.1)→Calls Tryz.prog 33 #[a,.slice vd vn vc,.string q.1,.int .i64 q.2.1] W fun x w'=>∃ad cap,x = .returned (.tuple #[.slice ad (Mg.mgL (allL base q.1.data.toList q.2.1) over q.1.data.toList q.2.1).length cap,.int .i64 (allC q.1.data.toList q.2.1)])∧MRow w' (.slice ad (Mg.mgL (allL base q.1.data.toList q.2.1) over q.1.data.toList q.2.1).length cap) (Mg.mgL (allL base q.1.data.toList q.2.1) over q.1.data.toList q.2.1)∧Below W.heap.size W w'):=fun W a hW hm=>Mg.Merge_told W (h.tabs.go ((HB.out W hW).mono h.size)).now a _ _ over q.1 q.2.1 hm (h.row.below (HB.out W hW)) h.ok.sm.1 hq (by omega) (by omega) hr (by rw[hmg];exact h1)
 have hC:allC q.1.data.toList q.2.1=0:=by unfold allC;rw[if_pos hr]
 rw[hC]at HALL HMG ⊢;rw[hmg]at HMG;have hl2:=zR6 (zAe zAa base over) q.1.data.toList q.2.1;have hl3:=h.ok.len;obtain⟨L2,hL2⟩:∃L2,allL (zAe zAa base over) q.1.data.toList q.2.1=L2:=⟨_,rfl⟩;have hsl:sugL (zAe zAa base over) q=Bt.bestF (Bt.kk q.2.2) L2:=by unfold sugL;rw[hL2]
 rw[hL2]at HMG hl2;rw[hsl]
 have HSEL:Hid (∀W a,w.heap.size≤W.heap.size→MRow W a L2→Calls Tryz.prog 34 #[a,.int .i64 q.2.2] W fun e w'=>∃ad n cap,e = .returned (.slice ad n cap)∧MRow w' (.slice ad n cap) (Bt.bestF (Bt.kk q.2.2) L2)∧(∀k,(Value.slice ad n cap).ownBlock=some k→w.heap.size≤k)∧Below W.heap.size W w'):=fun W a hs hm=>(Bt.Select_any W a L2 q.2.2 hm (by omega)).mono (by
  rintro e w' ⟨vl,rfl,ho,hb⟩;obtain⟨ad,n,cap,rfl,hrow,hnew⟩:=best_row ho;exact⟨ad,n,cap,rfl,hrow,fun k hk=>Nat.le_trans hs (hnew k hk),hb⟩)
 obtain⟨L1,hL1⟩:∃L1,allL base q.1.data.toList q.2.1=L1:=⟨_,rfl⟩;rw[hL1]at HALL HMG;obtain⟨n1,hn1⟩:∃n1,L1.length=n1:=⟨_,rfl⟩;obtain⟨n2,hn2⟩:∃n2,L2.length=n2:=⟨_,rfl⟩;rw[hn1]at HALL;rw[hn2]at HMG;clear h h1 hn0 hsd hal hbl hovl hr hC hmg hl2 hl3 hL2 hsl hL1 hn1 hn2 hvn hb0 hq;obtain⟨qs,qe,qk⟩:=q;simp only at *;go_enter Tryz.func14,Tryz.ntmps14;go_upto_region 1 with fail
 rw[←hqb,←hW0];clear hW0 hqb;have hbd:Below W0.heap.size W0 W0.drew:=(Below.refl _ W0).drew;have hSd:=HS.out _ hbd;refine zAh (S:=Sqd db wb qb (.slice vd vn vc) (qs,qe,qk)) 14 rfl zAr hSd (fun _=>?_);refine tq4 Sqd.facts 0 9 1 10 2 11 3 12 ?_;simp only[sZa,sZb,sZc];refine tq4 Sqd.facts 4 13 5 14 6 15 7 16 ?_;simp only[sZa,sZb,sZc];refine oc 8 W0.drew 17 32 #[.pointer (some ⟨wb,0,none⟩),.string qs,.int .i64 qe] ?_;refine(HALL.out _ hbd).mono ?_;rintro e w1 ⟨a1,c1,rfl,hm1,hb1⟩;have HB1:Hid (Below W0.heap.size W0 w1):=hbd.trans (hb1.mono hbd.size);have HM1:Hid (MRow w1 (.slice a1 n1 c1) L1):=hm1;have hS1:=HS.out w1 HB1.out;clear hb1 hm1;refine⟨_,rfl,hS1,fun _=>?_⟩;simp only[sZa,sZb,sZc];refine tq4 Sqd.facts 9 8 10 18 11 19 12 6 ?_;simp only[sZa,sZb,sZc];refine tq Sqd.facts 13 7 ?_;simp only[sZa,sZb,sZc];refine wpAnyH_done (by kernel_rfl) ?_ _;clear hS1 hSd hS0;go_upto_region 4 with fail
 have hbd2:Below w1.heap.size w1 w1.drew:=(Below.refl _ w1).drew;have hbe2:Below W0.heap.size W0 w1.drew:=HB1.out.trans (hbd2.mono HB1.out.size);have hS2:=HS.out _ hbe2;have HM1d:Hid (MRow w1.drew (.slice a1 n1 c1) L1):=HM1.out.below hbd2;refine zAh (S:=Sqd db wb qb (.slice vd vn vc) (qs,qe,qk)) 14 rfl zAr hS2 (fun _=>?_);refine tq4 Sqd.facts 0 24 1 25 2 26 3 27 ?_;simp only[sZa,sZb,sZc];refine tq4 Sqd.facts 4 28 5 29 6 30 7 31 ?_;simp only[sZa,sZb,sZc];refine tq Sqd.facts 8 32 ?_;simp only[sZa,sZb,sZc];refine oc 9 w1.drew 33 33 #[.slice a1 n1 c1,.slice vd vn vc,.string qs,.int .i64 qe] ?_;refine(HMG.out _ _ hbe2 HM1d.out).mono ?_;rintro e w3 ⟨a3,c3,rfl,hm3,hb3⟩;have HB3:Hid (Below W0.heap.size W0 w3):=hbe2.trans (hb3.mono hbe2.size);have HM3:Hid (MRow w3 (.slice a3 n2 c3) L2):=hm3;have hS3:=HS.out w3 HB3.out;clear hb3 hm3;refine⟨_,rfl,hS3,fun _=>?_⟩;simp only[sZa,sZb,sZc];refine tq4 Sqd.facts 10 23 11 34 12 35 13 6 ?_;simp only[sZa,sZb,sZc];refine wpAnyH_done (by kernel_rfl) ?_ _;obtain⟨_,_,_,_,y2⟩:=hS3.facts;clear hS3 hS2 hbd2;go_wp2_with (go_at_call 34;refine(HSEL.out _ _ (HB.out _ HB3.out).size HM3.out).mono ?_;rintro e w4 ⟨a4,n4,c4,rfl,hm4,hn4,hb4⟩;have HM4:Hid (MRow w4 (.slice a4 n4 c4) (Bt.bestF (Bt.kk qk) L2)∧(∀k,(Value.slice a4 n4 c4).ownBlock=some k→w.heap.size≤k)∧Below w3.heap.size w3 w4):=⟨hm4,hn4,hb4⟩;clear hm4 hn4 hb4);go_ret2;exact⟨a4,n4,c4,rfl,HM4.out.1,HM4.out.2.1,HB.out _ (HB3.out.trans (HM4.out.2.2.mono HB3.out.size))⟩
end Di
end
