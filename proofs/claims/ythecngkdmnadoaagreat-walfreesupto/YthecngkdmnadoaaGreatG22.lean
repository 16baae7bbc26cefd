/- Texts that were written apart, joined. -/
import Derived.Shelf.Lay
import Derived.Shelf.Spec.SlicesGrow
import Derived.Shelf.SlicesE.Compact
import Derived.Ground.SlgnProg
import Derived.Test.YthecngkdmnadoaaGreatG19
import Derived.Test.YthecngkdmnadoaaGreatG20
import Derived.Test.YthecngkdmnadoaaGreatSync
import Derived.Test.YthecngkdmnadoaaGreatDrawn
import Derived.Test.YthecngkdmnadoaaGreatG21
import Derived.Handy
namespace Go.Proofs.YthecngkdmnadoaaGreat
open Go.RowKit Go.Shelf
set_option maxRecDepth 100000
shelf_lay_g Lays8.n4 Nm8 4 at Tryz 79 as growU
shelf_lay_g SlLaysE.n43 Slgn 43 at Tryz 64 as compactU
end Go.Proofs.YthecngkdmnadoaaGreat

namespace Go.Proofs.YthecngkdmnadoaaGreat
open Go.RowKit Go.Shelf
set_option maxRecDepth 100000
def NumRow(w:World)(s:Value)(xs:List Int):Prop:=
 (s = .slice none 0 0∧xs=[])∨∃(g cap:Nat),s = .slice (some ⟨g,0,none⟩) xs.length cap∧g<w.heap.size∧∀j u,(xs.map (Value.int .u64))[j]?=some u→w.cell? ⟨g,j,none⟩=some u
theorem NumRow.form{w:World}{s:Value}{xs:List Int}(h:NumRow w s xs):∃(ad:Option Addr) (cap:Nat),s = .slice ad xs.length cap:=by
 rcases h with⟨rfl,rfl⟩|⟨g,cap,rfl,_⟩
 · exact⟨none,0,rfl⟩
 · exact⟨_,cap,rfl⟩
theorem NumRow.below{w w':World}{s:Value}{xs:List Int}(h:NumRow w s xs)(hb:Below w.heap.size w w'):NumRow w' s xs:=by
 rcases h with⟨rfl,rfl⟩|⟨g,cap,rfl,hg,hc⟩
 · exact .inl ⟨rfl,rfl⟩
 · exact .inr ⟨g,cap,rfl,Nat.lt_of_lt_of_le hg hb.size,fun j u hj=>(hb.cell (p:=⟨g,j,none⟩) hg).trans (hc j u hj)⟩
theorem NumRow.of_own{w:World}{base k:Nat}{v:Value}{xs:List Int}(h:w.ownsRow base 22 1 v k (xs.map (Value.int .u64))):NumRow w v xs:=by
 obtain⟨h1,h2⟩:=h;have hk:xs.length=k:=by simpa using h1
 subst hk;rcases h2 with⟨rfl,h0⟩|⟨g,cap,cur,rfl,hb,hh,h3,h4,h5,h6⟩
 · exact .inl ⟨rfl,List.eq_nil_of_length_eq_zero h0⟩
 · refine .inr ⟨g,cap,rfl,(Array.getElem?_eq_some_iff.1 hh).1,fun j u hj=>?_⟩
   rw[←h6,Nat.mul_one,List.getElem?_take]at hj
   split at hj
   · simpa[World.cell?,hh]using hj
   · cases hj
theorem uintT:(Tryz.prog.info? 22).map (fun i=>(i.zero,i.size,i.bytes))=some (some (.int .u64 0),1,8):=by kernel_rfl
theorem append_nums{w:World}{base k:Nat}{v s:Value}{vals:List Value}{xs:List Int}(hown:w.ownsRow base 22 1 v k vals)(hr:NumRow w s xs)(hb:base≤w.heap.size)(h63:k+xs.length<17592186044416)(ty:TypeId):
 ∃v' w',(Builtin.append_ #[63,63] ty #[v,s]).run Tryz.prog w = .ok v' w'∧w'.ownsRow base 22 1 v' (k+xs.length) (vals++xs.map (Value.int .u64))∧w.grownBy w' v.ownBlock:=by
 obtain⟨i0,hi,hz0,hz1,hz2⟩:=info_parts uintT;rcases hr with⟨rfl,rfl⟩|⟨g,cap,rfl,hg,hc⟩
 · refine⟨v,w,?_,by simpa using hown,⟨rfl,rfl,rfl,Nat.le_refl _,fun _ _ _=>rfl⟩⟩
   obtain⟨_,h2⟩:=hown;rcases h2 with⟨rfl,h0⟩|⟨g,cap,cur,rfl,hb,hh,h3,h4,h5,h6⟩
   · go_simp
   · go_simp
 · obtain⟨v',w',h1,h2,h3,_⟩:=run_append_own (P:=Tryz.prog) w base 63 ty 22 i0 (.int .u64 0) 1 8 Tryz.underlying63 hi hz0 hz1 hz2 rfl (by decide) v k vals hown ⟨g,0,none⟩ xs.length cap (xs.map (Value.int .u64)) (by simp) (fun j u hj=>by cases j with|zero=>simpa[Addr.add]using hc 0 u hj|succ j=>simpa[Addr.add]using hc (j+1) u hj) (by intro u hu;obtain⟨x,_,rfl⟩:=List.mem_map.1 hu;rfl) (by simp only[maxLen];omega) (by omega) hb
   exact⟨v',w',h1,h2,h3⟩
theorem grow_nil(n:Nat)(hn:n<17592186044416)(w:World):Calls Tryz.prog 79 #[.slice none 0 0,.int .i64 n] w fun e w'=>∃v,e = .returned v∧w'.ownsRow w.heap.size 22 1 v 0 []∧Below w.heap.size w w':=by
 obtain⟨i0,hi,hz0,hz1,hz2⟩:=info_parts uintT;rcases Nat.eq_zero_or_pos n with rfl|h0
 · refine(Any8.slices_Grow_room growU none 0 0 0 w (Nat.le_refl _) (by omega) (by omega) (by omega)).mono ?_
   rintro e w' ⟨rfl,rfl⟩;exact⟨_,rfl,World.ownsRow_nil _ _ _ _,Below.refl _ _⟩
 · refine(Any8.slices_Grow_grow growU i0 (.int .u64 0) hi hz0 (by rw[hz1];decide) none 0 0 n [] w (Nat.le_refl _) (by omega) (by rw[hz2];omega) (by omega) (by simp) (fun _=>rfl) (fun a h=>by cases h)).mono ?_
   rintro e w' ⟨rfl,rfl⟩;refine⟨_,rfl,⟨rfl,.inr ⟨_,_,_,rfl,Nat.le_refl _,World.alloc_heap_new _ _,Nat.zero_le _,?_,?_,rfl⟩⟩,((Below.refl _ w).drew).alloc (Nat.le_refl _) _⟩
   · exact grownCap_le_maxLen w (0+n) 0 _ (by unfold maxLen;omega)
   · have hge:n≤grownCap w n 0 (growU_ren.t 25):=grownCap_ge w n 0 _
     simp[Builtin.zeroCells,Value.cells];omega
theorem rowBelow{w w':World}{base k:Nat}{v:Value}{vals:List Value}(h:w.ownsRow base 22 1 v k vals)(hb:base≤w.heap.size)(hg:w.grownBy w' v.ownBlock):Below base w w':=by
 refine⟨hg.os,hg.tape,hg.output,hg.size,fun k hk=>hg.block k (by omega) fun e=>?_⟩;rcases h.2 with⟨rfl,_⟩|⟨g,cap,cur,rfl,h1,_⟩
 · cases e
 · simp only[Value.ownBlock,Option.some.injEq]at e
   omega
theorem wpList_append_run{P:Program}{ops:Array Oper}{rest:List Oper}{o:Oper}{a:Act}{w w':World}{Q:Exit→Act→World→Prop}{v s v':Value}(hgd:o.guard=none)(x y:Operand)(t:TypeId)
 (ho:o.op = .call { callee := .builtin .append,args:=#[x,y],argTypes:=#[t,t] }) (hx:a.eval x=v) (hy:a.eval y=s) (hr:(Builtin.append_ #[t,t] o.type #[v,s]).run P w = .ok v' w') (h:wpList P ops Q rest (a.put o.dst v') w'):
 wpList P ops Q (o::rest) a w:=by
 refine wpList_plain hgd fun _ hK=>?_
 unfold Oper.wp execOp;simp only[ho,resolve,invoke,builtin,Sem.run_bind,Sem.run_pure,Result.andThen_ok,List.map_toArray,List.map_cons,List.map_nil,hx,hy,hr];exact hK _ _ h
set_option maxHeartbeats 8000000 in
theorem Concat_any(w:World)(vb c:Nat)(s1 s2:Value)(xs ys:List Int)(h1:NumRow w s1 xs)(h2:NumRow w s2 ys)(hx:xs.length<8796093022208)(hy:ys.length<8796093022208)(hvb:vb<w.heap.size)
 (c0:w.cell? ⟨vb,0,none⟩=some s1) (c1:w.cell? ⟨vb,1,none⟩=some s2):
 Calls Tryz.prog 61 #[.slice (some ⟨vb,0,none⟩) 2 c] w fun e w'=>∃v,e = .returned v∧w'.ownsRow w.heap.size 22 1 v (xs.length+ys.length) ((xs++ys).map (Value.int .u64))∧Below w.heap.size w w':=by
 obtain⟨a1,cp1,rfl⟩:=h1.form;obtain⟨a2,cp2,rfl⟩:=h2.form;have H1:Hid (NumRow w (.slice a1 xs.length cp1) xs):=h1;have H2:Hid (NumRow w (.slice a2 ys.length cp2) ys):=h2;obtain⟨n1,hn1⟩:∃n1,xs.length=n1:=⟨_,rfl⟩;obtain⟨n2,hn2⟩:∃n2,ys.length=n2:=⟨_,rfl⟩;obtain⟨n3,hn3⟩:∃n3,n1+n2=n3:=⟨_,rfl⟩;have HN1:Hid (xs.length=n1):=hn1;have HN2:Hid (ys.length=n2):=hn2;have hsum:(n1:Int)+(n2:Int)=(n3:Int):=by omega
 have hp1:¬((n1:Int)<0):=by omega
 have hp3:¬((n3:Int)<0):=by omega
 have hn3b:n3<17592186044416:=by omega
 rw[hn1]at c0;rw[hn2]at c1;clear h1 h2;go_enter Tryz.func61,Tryz.ntmps61;go_wp2;refine wp_loop_rounds 3 ?_;rw[rounds_succ];go_wp2;rw[rounds_succ];go_wp2;rw[rounds_succ];go_wp2_with (go_at_call 79;refine(grow_nil n3 hn3b _).mono ?_;rintro e w1 ⟨v,rfl,hr1,hB1⟩);obtain⟨v2,w2,run2,row2,g2⟩:=append_nums hr1 (H1.out.below hB1) hB1.size (by omega) 63;have B2:Below w.heap.size w w2:=hB1.trans (rowBelow hr1 hB1.size g2);obtain⟨v3,w3,run3,row3,g3⟩:=append_nums row2 (H2.out.below B2) B2.size (by omega) 63;have B3:Below w.heap.size w w3:=B2.trans (rowBelow row2 B2.size g3);have d0:=(hB1.cell (p:=⟨vb,0,none⟩) hvb).trans c0;have d1:=(B2.cell (p:=⟨vb,1,none⟩) hvb).trans c1;rw[hn1]at run2;rw[hn2]at run3;have HB3:Hid (Below w.heap.size w w3):=B3;have HR3:Hid (w3.ownsRow w.heap.size 22 1 v3 (xs.length+ys.length) ((xs++ys).map (Value.int .u64))):=by
  show World.ownsRow _ _ _ _ _ _ _;simpa using row3
 have R2:Hid ((Builtin.append_ #[63,63] 63 #[v,.slice a1 n1 cp1]).run Tryz.prog w1 = .ok v2 w2):=run2;have R3:Hid ((Builtin.append_ #[63,63] 63 #[v2,.slice a2 n2 cp2]).run Tryz.prog w2 = .ok v3 w3):=run3;clear B2 B3 g2 g3 row2 row3 hr1 hB1 c0 c1 H1 H2 run2 run3;refine wp_loop_rounds 3 ?_;rw[rounds_succ];go_wp2_with (at_builtin;refine wpList_append_run rfl _ _ 63 rfl rfl rfl R2.out ?_);rw[rounds_succ];go_wp2_with (at_builtin;refine wpList_append_run rfl _ _ 63 rfl rfl rfl R3.out ?_);rw[rounds_succ];go_wp2;go_ret;exact⟨v3,rfl,HR3.out,HB3.out⟩
end Go.Proofs.YthecngkdmnadoaaGreat

namespace Go.Proofs.YthecngkdmnadoaaGreat
open Go.RowKit Go.Sort Go.Shelf Go.Lib
set_option maxRecDepth 100000
theorem compact_up(d:Array Int)(hs:∀i j,i<j→j<d.size→d[i]!≤d[j]!):∀m,m≤d.size→(∀x,x∈compactUpTo d m↔∃j,j<m∧x=d[j]!)∧(compactUpTo d m).Pairwise (·<·)
 |0,_=>⟨fun x=>by simp[compactUpTo],by simp[compactUpTo]⟩
 |m+1,hm=>by
  obtain⟨h1,h2⟩:=compact_up d hs m (by omega);rw[compactUpTo_succ];by_cases hk:keeps d m=true
  · rw[if_pos hk]
    simp only[keeps,decide_eq_true_eq]at hk;constructor
    · intro x
      rw[List.mem_append,h1,List.mem_singleton];constructor
      · rintro(⟨j,hj,rfl⟩|rfl)
        · exact⟨j,by omega,rfl⟩
        · exact⟨m,by omega,rfl⟩
      · rintro⟨j,hj,rfl⟩
        by_cases e:j=m
        · exact .inr (by rw[e])
        · exact .inl ⟨j,by omega,rfl⟩
    · rw[List.pairwise_append]
      refine⟨h2,List.pairwise_singleton _ _,fun x hx y hy=>?_⟩;rw[List.mem_singleton]at hy;subst hy;obtain⟨j,hj,rfl⟩:=(h1 x).1 hx;rcases hk with hk|hk
      · omega
      · have a1:=hs (m-1) m (by omega) (by omega)
        by_cases e:j=m-1
        · subst e;omega
        · have a2:=hs j (m-1) (by omega) (by omega)
          omega
  · rw[if_neg hk,List.append_nil]
    simp only[keeps,decide_eq_true_eq,not_or,Decidable.not_not]at hk;refine⟨fun x=>?_,h2⟩;rw[h1];constructor
    · rintro⟨j,hj,rfl⟩;exact⟨j,by omega,rfl⟩
    · rintro⟨j,hj,rfl⟩
      by_cases e:j=m
      · subst e;exact⟨j-1,by omega,hk.2⟩
      · exact⟨j,by omega,rfl⟩
theorem rising_eq:∀{A B:List Int},A.Pairwise (·<·)→B.Pairwise (·<·)→(∀x,x∈A↔x∈B)→A=B:=by
 intro A B hA hB h;refine List.Perm.eq_of_pairwise (le:=fun a b:Int=>a<b) (fun a b _ _ h1 h2=>by omega) hA hB ((List.perm_ext_iff_of_nodup (hA.imp fun h=>by omega) (hB.imp fun h=>by omega)).2 h)
theorem Compact_any(blk off cap:Nat)(d:Array Int)(w:World)(hH:Holds (Value.int .u64) w blk off d)(hsz:d.size≤9223372036854775807)(hcap:d.size≤cap):
 Calls Tryz.prog 64 #[.slice (some ⟨blk,off,none⟩) d.size cap] w fun e w'=>e = .returned (.slice (some ⟨blk,off,none⟩) (compactUpTo d d.size).length cap)∧∃q,w'=putRow (Value.int .u64) (Sort.ahead w q) blk off (compactUpTo d d.size++List.replicate (d.size-(compactUpTo d d.size).length) 0).toArray:=
 AnyE.slices_Compact compactU (Value.int .u64) (fun _=>rfl) (EqlAt.intD _ _ _) (NeqAt.intD _ _ _) 0 (fun w=>by exact Tryz.zeroValue22 w) blk off cap d w hH hsz hcap
end Go.Proofs.YthecngkdmnadoaaGreat

namespace Go.Proofs.YthecngkdmnadoaaGreat
open Go.RowKit Go.Sort Go.Lib
set_option maxRecDepth 100000
def areasS(S:List Sec):List Int:=Lib.compact (S.map (·.area))
def SA(p lb fb:Nat)(W:World):Prop:=W.cell? ⟨p,6,none⟩=some (.map (some lb))∧W.cell? ⟨p,7,none⟩=some (.map (some fb))
theorem SA.facts{p lb fb:Nat}{W:World}(h:SA p lb fb W):W.cell? ⟨p,6,none⟩=some (.map (some lb))∧W.cell? ⟨p,7,none⟩=some (.map (some fb)):=h
theorem SA.below{p lb fb:Nat}{w W:World}(h:SA p lb fb w)(hp:p<w.heap.size)(hb:Below w.heap.size w W):SA p lb fb W:=⟨(hb.cell (p:=⟨p,6,none⟩) hp).trans h.1,(hb.cell (p:=⟨p,7,none⟩) hp).trans h.2⟩
theorem area_of_find{S:List Sec}{a n:Int}(h:(findS a n S).isSome=true):a∈S.map (·.area):=by
 obtain⟨s,hs⟩:=Option.isSome_iff_exists.1 h;exact List.mem_map.2 ⟨s,findS_mem hs,(findS_at hs).1⟩
theorem areas_iff{w:World}{sh:Sh}{S:List Sec}(h:Held w sh)(hr:Rep sh S)(a:Int):a∈S.map (·.area)↔a∈keys sh.L∨a∈keys sh.F:=by
 constructor
 · intro ha
   obtain⟨s,hs,rfl⟩:=List.mem_map.1 ha;have hf:=findS_self hr.sorted hs;rcases(find_in_maps h hr s.area s.n).1 (by rw[hf];rfl)with h1|h1
   · left
     rw[mem_keys];cases hm:mget s.area sh.L with
     |none=>simp[inL,hm,keys]at h1
     |some x=>rfl
   · right
     rw[mem_keys];cases hm:mget s.area sh.F with
     |none=>simp[inF,hm,keys]at h1
     |some x=>rfl
 · rintro(ha|ha)
   · obtain⟨p,hp,rfl⟩:=List.mem_map.1 ha
     obtain⟨h1,h2,h3⟩:=h.hli p hp;obtain⟨q,hq⟩:=List.exists_mem_of_ne_nil _ h3;refine area_of_find (n:=q.1) ((find_in_maps h hr p.1 q.1).2 (.inl ?_));rw[inL,mget_of_mem (k:=p.1) (v:=p.2) h.hl.nodup hp];exact List.mem_map.2 ⟨q,hq,rfl⟩
   · obtain⟨p,hp,rfl⟩:=List.mem_map.1 ha
     obtain⟨h1,h2,h3⟩:=h.hfi p hp;obtain⟨q,hq⟩:=List.exists_mem_of_ne_nil _ h3;refine area_of_find (n:=q.1) ((find_in_maps h hr p.1 q.1).2 (.inr ?_));rw[inF,mget_of_mem (k:=p.1) (v:=p.2) h.hf.nodup hp];exact List.mem_map.2 ⟨q,hq,rfl⟩
theorem len_areas{w:World}{sh:Sh}{S:List Sec}(h:Held w sh)(hr:Rep sh S):sh.L.length≤S.length∧sh.F.length≤S.length:=by
 have h1:=nodup_len_le (keys sh.L) (S.map (·.area)) h.hl.nodup fun a ha=>(areas_iff h hr a).2 (.inl ha)
 have h2:=nodup_len_le (keys sh.F) (S.map (·.area)) h.hf.nodup fun a ha=>(areas_iff h hr a).2 (.inr ha)
 simp[keys]at h1 h2;exact⟨h1,h2⟩
theorem mem_sorted(xs:List Int)(x:Int):x∈SrtU.sorted xs↔x∈xs:=(List.mergeSort_perm xs _).mem_iff
theorem sorted_le(xs:List Int):(SrtU.sorted xs).Pairwise (·≤·):=by
 have:=List.pairwise_mergeSort (le:=fun x y:Int=>decide (x≤y)) (fun a b c h1 h2=>by simp only[decide_eq_true_eq]at *;omega) (fun a b=>by simp only[Bool.or_eq_true,decide_eq_true_eq];omega) xs;exact this.imp fun h=>by simpa using h
theorem up_of_pairwise{xs:List Int}(h:xs.Pairwise (·≤·)):∀i j,i<j→j<xs.toArray.size→xs.toArray[i]!≤xs.toArray[j]!:=by
 intro i j hij hj;have hj':j<xs.length:=by simpa using hj
 have:=List.pairwise_iff_getElem.1 h i j (by omega) hj' hij;simpa[hj',show i<xs.length by omega]using this
theorem areas_eq{w:World}{sh:Sh}{S:List Sec}(h:Held w sh)(hr:Rep sh S):
 compactUpTo (SrtU.sorted (SrtU.sorted (keys sh.L)++SrtU.sorted (keys sh.F))).toArray (SrtU.sorted (SrtU.sorted (keys sh.L)++SrtU.sorted (keys sh.F))).toArray.size=areasS S:=by
 obtain⟨a1,a2⟩:=compact_up _ (up_of_pairwise (sorted_le (SrtU.sorted (keys sh.L)++SrtU.sorted (keys sh.F)))) _ (Nat.le_refl _);have hs:(S.map (·.area)).Pairwise (·≤·):=by
  rw[List.pairwise_map];exact hr.sorted.imp fun h=>by unfold Sec.before at h;omega
 obtain⟨b1,b2⟩:=compact_up _ (up_of_pairwise hs) _ (Nat.le_refl _);have mem:∀(zs:List Int) (x:Int),(∃j,j<zs.toArray.size∧x=zs.toArray[j]!)↔x∈zs:=by
  intro zs x;constructor
  · rintro⟨j,hj,rfl⟩
    (have hj':j<zs.length:=by simpa using hj);simp[hj']
  · intro hx
    obtain⟨j,hj,rfl⟩:=List.getElem_of_mem hx;exact⟨j,by simpa using hj,by simp[hj]⟩
 have e:areasS S=compactUpTo (S.map (·.area)).toArray (S.map (·.area)).toArray.size:=by
  rw[areasS,Lib.compact];simp
 rw[e];refine rising_eq a2 b2 fun x=>?_
 rw[a1,b1,mem,mem,mem_sorted,List.mem_append,mem_sorted,mem_sorted,areas_iff h hr]
end Go.Proofs.YthecngkdmnadoaaGreat

namespace Go.Proofs.YthecngkdmnadoaaGreat
open Go.RowKit Go.Sort Go.Lib
set_option maxRecDepth 100000
theorem held_below{w W:World}{sh:Sh}(h:Held w sh)(hb:Below w.heap.size w W):Held W sh:=h.same fun b hb2=>hb.block b (h.lt b hb2)
theorem riseL{w:World}{sh:Sh}(h:Held w sh)(hl:sh.L.length<1099511627776):
 Calls Tryz.prog 62 #[.map (some sh.lb)] w fun e w'=>∃v,e = .returned v∧NumRow w' v (SrtU.sorted (keys sh.L))∧Below w.heap.size w w':=by
 refine(IterL.rising_any (f:=inV) (m:=sh.L) (bo:=some sh.lb) w h.hl.nodup hl (fun W hW=>(held_below h hW).hl.range Tryz.underlying70)).mono ?_;rintro e w' ⟨v,rfl,h1,h2,h3⟩;exact⟨v,rfl,NumRow.of_own h1,h3⟩
theorem riseF{w:World}{sh:Sh}(h:Held w sh)(hl:sh.F.length<1099511627776):
 Calls Tryz.prog 44 #[.map (some sh.fb)] w fun e w'=>∃v,e = .returned v∧NumRow w' v (SrtU.sorted (keys sh.F))∧Below w.heap.size w w':=by
 refine(IterF.rising_any (f:=inV) (m:=sh.F) (bo:=some sh.fb) w h.hf.nodup hl (fun W hW=>(held_below h hW).hf.range Tryz.underlying71)).mono ?_;rintro e w' ⟨v,rfl,h1,h2,h3⟩;exact⟨v,rfl,NumRow.of_own h1,h3⟩
set_option maxHeartbeats 1000000 in
theorem Compact_nil(w:World):Calls Tryz.prog 64 #[.slice none 0 0] w fun e w'=>e = .returned (.slice none 0 0)∧w'=w:=by
 go_enter Tryz.func64,Tryz.ntmps64;go_wp2;go_ret;exact⟨rfl,rfl⟩
set_option maxHeartbeats 8000000 in
theorem Areas_any(N:Nat)(p:Nat)(d:DS)(fp:List Nat)(w:World)(h:DiskAt N w p d fp)(hN:N<1099511627776):
 Calls Tryz.prog 31 #[.pointer (some ⟨p,0,none⟩)] w fun e w'=>∃v,e = .returned v∧NumRow w' v (areasS d.secs)∧Below w.heap.size w w':=by
 have hcl:d.secs.length≤N:=h.bounds.2.2.2.2.1;obtain⟨sh,h1,h2,h3,_⟩:=h;obtain⟨c0,c1,c2,c3,c4,c5,c6,c7,hz⟩:=disk_cells h1;have hpl:p<w.heap.size:=(Array.getElem?_eq_some_iff.1 h1).1;obtain⟨hlL,hlF⟩:=len_areas h2 h3;have HE:Hid (compactUpTo (SrtU.sorted (SrtU.sorted (keys sh.L)++SrtU.sorted (keys sh.F))).toArray (SrtU.sorted (SrtU.sorted (keys sh.L)++SrtU.sorted (keys sh.F))).toArray.size=areasS d.secs):=areas_eq h2 h3;have HH:Hid (Held w sh):=h2;have HS:Hid (SA p sh.lb sh.fb w.drew):=⟨c6,c7⟩;clear h1 h2 h3 c0 c1 c2 c3 c4 c5 c6 c7 hz;have bd:Below w.heap.size w w.drew:=(Below.refl _ w).drew;go_enter Tryz.func31,Tryz.ntmps31;go_wp2_with fail;refine region_at (S:=SA p sh.lb sh.fb) 13 rfl (by kernel_rfl) HS.out (fun hHeld=>?_);refine tq4 SA.facts 0 4 1 5 2 6 3 7 ?_;simp only[sZa,sZb,sZc];refine tq4 SA.facts 5 9 6 10 7 11 8 12 ?_;simp only[sZa,sZb,sZc];have hd:Held w.drew sh:=held_below HH.out bd;refine one_call (i:=4) (w0:=w.drew) 8 62 #[.map (some sh.lb)] (by kernel_rfl) rfl rfl (by rfl) (by kernel_rfl) ?_;refine(riseL hd (by omega)).mono ?_;rintro e w1 ⟨vL,rfl,rL,bL⟩;refine⟨vL,rfl,HS.out.below hpl bL,(fun _=>?_)⟩;simp only[sZa,sZb,sZc];refine one_call (i:=9) (w0:=w1) 13 44 #[.map (some sh.fb)] (by kernel_rfl) rfl rfl (by rfl) (by kernel_rfl) ?_;refine(riseF (held_below hd bL) (by omega)).mono ?_;rintro e w2 ⟨vF,rfl,rF,bF⟩;have rL2:=rL.below bF;have b2:Below w.heap.size w w2:=bd.trans (bL.trans (bF.mono bL.size));refine⟨vF,rfl,HS.out.below hpl (bL.trans (bF.mono bL.size)),fun _=>?_⟩;simp only[sZa,sZb,sZc];have hsS:SA p sh.lb sh.fb w2:=HS.out.below hpl (bL.trans (bF.mono bL.size));have b3:Below w2.heap.size w2 (w2.alloc (.cells #[vL,vF] 63)):=(Below.refl _ w2).alloc (Nat.le_refl _) _;have hpl2:p<w2.heap.size:=Nat.lt_of_lt_of_le hpl b2.size;refine one_value (i:=10) (v := .slice (some ⟨w2.heap.size,0,none⟩) 2 2) (w':=w2.alloc (.cells #[vL,vF] 63)) 14 (by kernel_rfl) rfl rfl (by rfl) ?_ (hsS.below hpl2 b3) (fun _=>?_)
 · obtain⟨aL,cL,rfl⟩:=rL2.form
   obtain⟨aF,cF,rfl⟩:=rF.form;go_simp;first|done|exact rfl
 simp only[sZa,sZb,sZc];have hv1:(SrtU.sorted (keys sh.L)).length<8796093022208:=by rw[SrtU.sorted_length];simp[keys];omega
 have hv2:(SrtU.sorted (keys sh.F)).length<8796093022208:=by rw[SrtU.sorted_length];simp[keys];omega
 refine one_call (i:=11) (w0:=w2.alloc (.cells #[vL,vF] 63)) 15 61 #[.slice (some ⟨w2.heap.size,0,none⟩) 2 2] (by kernel_rfl) rfl rfl (by rfl) (by kernel_rfl) ?_;refine(Concat_any (w2.alloc (.cells #[vL,vF] 63)) w2.heap.size 2 vL vF (SrtU.sorted (keys sh.L)) (SrtU.sorted (keys sh.F)) (rL2.below b3) (rF.below b3) hv1 hv2 (by simp) (by go_simp) (by go_simp)).mono ?_;rintro e w4 ⟨v,rfl,row4,b4⟩;have b5:Below w2.heap.size w2 w4:=b3.trans (b4.mono b3.size);have B4:Hid (Below w.heap.size w w4):=b2.trans (b5.mono b2.size);refine⟨v,rfl,hsS.below hpl2 b5,fun _=>?_⟩;simp only[sZa,sZb,sZc];refine one_value (i:=12) (v:=v) (w':=w4) 3 (by kernel_rfl) rfl rfl (by rfl) (by kernel_rfl) (hsS.below hpl2 b5) (fun _=>?_);refine wpAnyH_done (by kernel_rfl) ?_ _;simp only[sZa,sZb,sZc];obtain⟨xs,hxs⟩:∃xs,SrtU.sorted (keys sh.L)++SrtU.sorted (keys sh.F)=xs:=⟨_,rfl⟩;have HE2:Hid (compactUpTo (SrtU.sorted xs).toArray (SrtU.sorted xs).toArray.size=areasS d.secs):=by show _=_;rw[←hxs];exact HE.out
 have hlen:(SrtU.sorted (keys sh.L)).length+(SrtU.sorted (keys sh.F)).length=xs.length:=by rw[←hxs,List.length_append]
 rw[hxs,hlen]at row4;have hxl:xs.length<17592186044416:=by omega
 have hbs:w.heap.size≤(w2.alloc (.cells #[vL,vF] 63)).heap.size:=Nat.le_trans b2.size b3.size;clear b5 b4 b3 b2 bL bF rL rL2 rF hsS hHeld hd bd HE HS HH hxs hlen hv1 hv2 hlL hlF;obtain⟨q1,q2⟩:=row4;rcases q2 with⟨rfl,q3⟩|⟨g,cap,cur,rfl,k1,k2,k3,k4,k5,k6⟩
 · have hx:xs=[]:=List.eq_nil_of_length_eq_zero q3
   subst hx;go_wp2_with (first|(go_at_call 63;refine(SrtU.Sort_nil _).mono ?_;rintro e w5 ⟨rfl,rfl⟩)|(go_at_call 64;refine(Compact_nil _).mono ?_;rintro e w6 ⟨rfl,rfl⟩));go_ret;refine⟨_,rfl,.inl ⟨rfl,?_⟩,B4.out⟩;rw[←HE2.out];simp[SrtU.sorted,compactUpTo]
 · have hA:SrtU.At g 0 w4 w4 xs.length xs.toArray:=SrtU.row_at k2 (by simpa using k6)
   have HA:Hid (Calls Tryz.prog 63 #[.slice (some ⟨g,0,none⟩) xs.length cap] w4 fun e w'=>e = .returned (.tuple #[])∧SrtU.At g 0 w4 w' xs.length (SrtU.sorted xs).toArray):=by
    have:=SrtU.Sort_any g 0 cap xs.length xs.toArray w4 w4 hA (Array.getElem?_eq_some_iff.1 k2).1 (by omega);show Calls _ _ _ _ _;simpa using this
   (have hsl:(SrtU.sorted xs).toArray.size=xs.length:=by simp[SrtU.sorted_length]);have HC:Hid (∀w5,SrtU.At g 0 w4 w5 xs.length (SrtU.sorted xs).toArray→Calls Tryz.prog 64 #[.slice (some ⟨g,0,none⟩) xs.length cap] w5 fun e w6=>e = .returned (.slice (some ⟨g,0,none⟩) (areasS d.secs).length cap)∧NumRow w6 (.slice (some ⟨g,0,none⟩) (areasS d.secs).length cap) (areasS d.secs)∧Below w.heap.size w w6):=by
    intro w5 h5;have hc:=Compact_any g 0 cap (SrtU.sorted xs).toArray w5 h5.holds (by omega) (by omega);rw[HE2.out,hsl]at hc;refine hc.mono ?_;rintro e w6 ⟨rfl,q,rfl⟩;have hle:(areasS d.secs).length≤xs.length:=by
     rw[←HE2.out,compactUpTo,List.length_map,←hsl];exact Nat.le_trans (List.length_filter_le _ _) (by simp)
    obtain⟨D,hD⟩:∃D,(areasS d.secs++List.replicate (xs.length-(areasS d.secs).length) 0).toArray=D:=⟨_,rfl⟩;(have hds:D.size=(SrtU.sorted xs).toArray.size:=by rw[hsl,←hD];simp;omega);have hh:=holds_putRow (Value.int .u64) (Sort.ahead w5 q) g 0 (SrtU.sorted xs).toArray D (holds_ahead _ _ _ _ _ _ h5.holds) hds;(have hoth:∀k,k≠g→(putRow (Value.int .u64) (Sort.ahead w5 q) g 0 D).heap[k]?=w5.heap[k]?:=fun k hk=>by simp[putRow,mapBlock,Array.getElem?_modify,Ne.symm hk]);rw[hD];refine⟨rfl,.inr ⟨g,cap,rfl,?_,fun j u hj=>?_⟩,?_⟩
    · rw[size_putRow]
      exact Nat.lt_of_lt_of_le (Array.getElem?_eq_some_iff.1 k2).1 h5.step.size
    · rw[List.getElem?_map]at hj
      obtain⟨x,hx,rfl⟩:=Option.map_eq_some_iff.1 hj;have hjl:=(List.getElem?_eq_some_iff.1 hx).1;have:=(hh j (by rw[hds,hsl];omega)).1;rw[Nat.zero_add]at this;rw[this,←hD];congr 2;(have:(areasS d.secs++List.replicate (xs.length-(areasS d.secs).length) 0)[j]?=some x:=by rw[List.getElem?_append_left hjl];exact hx);simp[this]
    · have hB:=B4.out
      refine⟨h5.step.os.trans hB.os,h5.step.tape.trans hB.tape,h5.step.output.trans hB.output,by rw[size_putRow];exact Nat.le_trans hB.size h5.step.size,fun k hk=>?_⟩;rw[hoth k (by omega),h5.step.block k (Nat.lt_of_lt_of_le hk hB.size) (by omega)];exact hB.block k hk
   clear hA k1 k2 k3 k4 k5 k6 q1 HE2;go_wp2_with (first|(go_at_call 63;refine HA.out.mono ?_;rintro e w5 ⟨rfl,hA5⟩)|(go_at_call 64;refine(HC.out _ hA5).mono ?_;rintro e w6 ⟨rfl,hr6,hb6⟩));go_ret;exact⟨_,rfl,hr6,hb6⟩
end Go.Proofs.YthecngkdmnadoaaGreat
