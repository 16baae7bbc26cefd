import Derived.Test.YthecngkdmnadoaaGreatG43
namespace Go.Proofs.YthecngkdmnadoaaGreat
open Go.RowKit
set_option maxRecDepth 100000
theorem sub_len:∀(B A:List Nat),B.Pairwise (·<·)→A.Pairwise (·<·)→(∀x∈A,x∈B)→A.length≤B.length
 |[],[],_,_,_=>Nat.le_refl _
 |[],a::A,_,_,h=>by have:=h a (List.mem_cons_self ..);cases this
 |b::B,[],_,_,_=>Nat.zero_le _
 |b::B,a::A,hB,hA,h=>by
  obtain⟨b1,b2⟩:=List.pairwise_cons.1 hB;obtain⟨a1,a2⟩:=List.pairwise_cons.1 hA;by_cases e:a=b
  · have:=sub_len B A b2 a2 (fun x hx=>by
     rcases List.mem_cons.1 (h x (List.mem_cons_of_mem _ hx))with h1|h1
     · have:=a1 x hx;omega
     · exact h1)
    simp only[List.length_cons];omega
  · have hab:a∈B:=by
     rcases List.mem_cons.1 (h a (List.mem_cons_self ..))with h1|h1
     · exact absurd h1 e
     · exact h1
    have:=sub_len B (a::A) b2 hA (fun x hx=>by
     rcases List.mem_cons.1 (h x hx)with h1|h1
     · have h2:=b1 a hab
       rcases List.mem_cons.1 hx with h3|h3
       · omega
       · have:=a1 x h3;omega
     · exact h1)
    simp only[List.length_cons]at this ⊢;omega
theorem LI.lastPl{f0:Nat}{g:LG}{segs:List SegN}{cu:CuN}(h:LI f0 g segs cu)(hl:0<g.l.length):(g.l.getD (g.l.length-1) (0,0)).2≤g.first+g.L.length:=by
 obtain⟨all,hall⟩:∃all,segs++cuL cu=all:=⟨_,rfl⟩;have hp:=h.pls;have hc:=h.si.chain;have ht:=h.log;rw[hall]at hp hc ht;have hne:all≠[]:=by
  intro e;rw[e]at hp;rw[hp]at hl;cases hl
 obtain⟨a,x,rfl⟩:∃a x,all=a++[x]:=⟨_,_,(List.dropLast_concat_getLast hne).symm⟩;have e1:(g.l.getD (g.l.length-1) (0,0))=(x.1,x.2.1):=by
  rw[hp,List.map_append,List.length_append];simp
 rw[e1];rw[srs_append]at hc ht;have hc2:=((ch_append _ _ _).1 hc).2.1;rw[fo_append]at ht;have ht':Tells f0 (some (nxt (fo none (srs a)) x.2)) g.first g.L:=ht;obtain⟨t1,t2,t3⟩:=ht';have hc3:okN (fo none (srs a)) x.2:=hc2;have h1:=nxt_end hc3;have h2:=congrArg List.length t3;rw[List.length_drop]at h2;show x.2.1≤_;omega
theorem comp_all{f0:Nat}{g:LG}{segs:List SegN}{cu:CuN}(h:LI f0 g segs cu)(hL:0<g.L.length)(hr:(compG g (g.first+g.L.length)).1=0):(compG g (g.first+g.L.length)).2.l.length≤1:=by
 have hcl:(compG g (g.first+g.L.length))=if ¬(aheadR g.d (g.area:Int) g.l (g.first+g.L.length)).1=0 then ((aheadR g.d (g.area:Int) g.l (g.first+g.L.length)).1,{ g with d:=(aheadR g.d (g.area:Int) g.l (g.first+g.L.length)).2,fault:=(aheadR g.d (g.area:Int) g.l (g.first+g.L.length)).1 })
  else (0,{ g with d:=(aheadR g.d (g.area:Int) g.l (g.first+g.L.length)).2,first:=g.first+g.L.length,L:=g.L.drop (g.first+g.L.length-g.first),l:=g.l.drop (downTo g.l (g.first+g.L.length) (g.l.length-1)),fault:=0 }):=by
  unfold compG;rw[if_neg (by rw[h.fault];decide),if_neg (by omega),if_neg (by omega)]
 rw[hcl]at hr ⊢
 split at hr
 · rename_i h1
   exact absurd hr h1
 · rename_i h1
   rw[if_neg h1];show(g.l.drop (downTo g.l (g.first+g.L.length) (g.l.length-1))).length≤1;rw[List.length_drop];cases hn:g.l.length-1 with
   |zero=>omega
   |succ n=>
    have hp:=h.lastPl (by omega);rw[hn]at hp;have:downTo g.l (g.first+g.L.length) (n+1)=n+1:=by
     rw[downTo,if_neg (by omega)]
    rw[this];omega
theorem LI.count{f0:Nat}{g:LG}{segs:List SegN}{cu:CuN}(h:LI f0 g segs cu):(numsN g.d).length≤g.l.length:=by
 have hs:=h.si;obtain⟨_,h4⟩:=nums_mem hs.ok.sorted (fun s hs'=>(hs.ok.area s hs').1);have hsub:=hs.sub;have hl:g.l.length=((segs++cuL cu).map (·.1)).length:=by rw[h.pls,List.length_map,List.length_map]
 rw[hl];exact sub_len _ _ hs.asc h4 hsub
theorem CutP.empty{f0 k:Nat}{g:LG}{M:List SR}(h:CutP f0 k (-1) g M)(hk:k≤900000):
 ∃g3 M3,appG g []=(0,g3)∧CutP f0 (k+1) (-1) g3 M3∧0<g3.L.length∧∃g4 M4,compG g3 (g3.first+g3.L.length)=(0,g4)∧CutP f0 (k+2) (-1) g4 M4∧g4.L=[]∧(numsN g4.d).length≤1:=by
 have ha:doesG g 0 0 []=appG g []:=if_pos rfl;have hr:doR (g.first,g.L) 0 0 []=(0,(g.first,g.L++[[]])):=by unfold doR;rw[if_pos rfl,if_neg (by simp)]
 have hs:=h.step (kd:=0) (z:=0) (x:=[]) (by omega) (by omega) (by omega) (fun y hy=>by cases hy);rw[ha,hr,if_neg (by decide)]at hs;obtain⟨g3,hg3⟩:∃g3,(appG g []).2=g3:=⟨_,rfl⟩;rw[hg3]at hs;rcases hs with⟨_,q,_⟩|⟨_,q2,q3,q4,hc3⟩
 · omega
 have hL:0<g3.L.length:=by rw[q4];simp
 have hfl:=hc3.sm.fl;refine⟨g3,_,Prod.ext q2 hg3,hc3,hL,?_⟩;have hix:=ix_near g3.first (g3.L.length:Int) (by omega) (by omega) (by omega);have hix2:(IntKind.u64.wrap ((g3.first:Int)+IntKind.u64.wrap (g3.L.length:Int))).toNat=g3.first+g3.L.length:=by
  rcases hix with⟨_,e⟩|⟨e,_⟩
  · rw[e,Int.toNat_natCast]
  · omega
 have hic:doesG g3 3 (g3.L.length:Int) []=compG g3 (g3.first+g3.L.length):=by
  have:doesG g3 3 (g3.L.length:Int) []=compG g3 (ixG g3 (g3.L.length:Int)):=by unfold doesG;rw[if_neg (by decide),if_neg (by decide),if_neg (by decide),if_pos rfl]
  rw[this];unfold ixG;rw[hix2]
 have hr3:doR (g3.first,g3.L) 3 (g3.L.length:Int) []=(0,(g3.first+g3.L.length,g3.L.drop (g3.L.length:Int).toNat)):=by
  unfold doR;rw[if_neg (by decide),if_neg (by decide),if_pos rfl]
  dsimp only
  rw[hix2,if_neg (by omega),if_neg (by omega)]
 have hs:=hc3.step (kd:=3) (z:=(g3.L.length:Int)) (x:=[]) (by omega) (by omega) (by omega) (fun y hy=>by cases hy);rw[hic,hr3,if_neg (by decide)]at hs;obtain⟨g4,hg4⟩:∃g4,(compG g3 (g3.first+g3.L.length)).2=g4:=⟨_,rfl⟩;obtain⟨segs,cu,hli,_⟩:=hc3.li;have hone:=comp_all hli hL;rw[hg4]at hs hone;rcases hs with⟨_,q,_⟩|⟨_,r2,r3,r4,hc4⟩
 · omega
 obtain⟨segs',cu',hli4,_⟩:=hc4.li;refine⟨g4,_,Prod.ext r2 hg4,hc4,?_,Nat.le_trans hli4.count (hone r2)⟩;rw[r4,Int.toNat_natCast];exact List.drop_length
end Go.Proofs.YthecngkdmnadoaaGreat
