/- Texts that were written apart, joined. -/
import Derived.Test.YthecngkdmnadoaaGreatG24
import Derived.Test.YthecngkdmnadoaaGreatDrawnE
namespace Go.Proofs.YthecngkdmnadoaaGreat
open Go.RowKit
set_option maxRecDepth 100000
abbrev Sv:=Option Addr×Nat×Nat
def encS(x:Sv):Value := .slice x.1 x.2.1 x.2.2
def SOwn(B:Nat)(w:World)(v:Value)(l:List Sv):Prop:=w.ownsRow B 34 1 v l.length (l.map encS)
theorem info_S:(Tryz.prog.info? 34).map (fun i=>(i.zero,i.size,i.bytes))=some (some (.slice none 0 0),1,24):=by kernel_rfl
theorem SOwn.nil(B:Nat)(w:World):SOwn B w (.slice none 0 0) []:=World.ownsRow_nil _ _ _ _
theorem SOwn.shape{B:Nat}{w:World}{v:Value}{l:List Sv}(h:SOwn B w v l):∃ad cap,v = .slice ad l.length cap:=by
 obtain⟨hl,⟨e,h0⟩|⟨g,cap,cur,rfl,_⟩⟩:=h
 · exact⟨none,0,by rw[e,h0]⟩
 · exact⟨_,cap,rfl⟩
theorem SOwn.same{B:Nat}{w w':World}{v:Value}{l:List Sv}(h:SOwn B w v l)(hb:∀g o n c,v = .slice (some ⟨g,o,none⟩) n c→g<w.heap.size→w'.heap[g]?=w.heap[g]?):SOwn B w' v l:=by
 obtain⟨hl,hn|⟨g,cap,cur,rfl,h1,hg,h2⟩⟩:=h
 · exact⟨hl,.inl hn⟩
 · exact⟨hl,.inr ⟨g,cap,cur,rfl,h1,(hb _ _ _ _ rfl (Array.getElem?_eq_some_iff.1 hg).1).trans hg,h2⟩⟩
theorem SOwn.block{B:Nat}{w:World}{g cap n:Nat}{l:List Sv}(h:SOwn B w (.slice (some ⟨g,0,none⟩) n cap) l):∃cur,B≤g∧w.heap[g]?=some (.cells cur 34 (0,0))∧n=l.length∧n≤cap∧cap≤maxLen∧cur.size=cap∧(∀i x,l[i]?=some x→w.cell? ⟨g,i,none⟩=some (encS x))∧∀o,w.frozen? ⟨g,o,none⟩=false:=by
 obtain⟨_,⟨e,_⟩|⟨g',cap',cur,e,h1,hh,h3,h4,h5,h6⟩⟩:=h
 · cases e
 · simp only[Value.slice.injEq,Option.some.injEq,Addr.mk.injEq]at e
   obtain⟨⟨rfl,_⟩,rfl,rfl⟩:=e;refine⟨cur,h1,hh,rfl,h3,h4,by omega,fun i x hi=>?_,fun o=>by simp[World.frozen?,hh]⟩;(have hj:(l.map encS)[i]?=some (encS x):=by rw[List.getElem?_map,hi];rfl);rw[←h6,Nat.mul_one,List.getElem?_take]at hj
   split at hj
   · simpa[World.cell?,hh]using hj
   · cases hj
theorem SOwn.of_cells{B:Nat}{w:World}{g cap:Nat}{cur:Array Value}{l:List Sv}(hB:B≤g)(hh:w.heap[g]?=some (.cells cur 34 (0,0)))(h3:l.length≤cap)(h4:cap≤maxLen)(h5:cur.size=cap)(hc:∀i x,l[i]?=some x→w.cell? ⟨g,i,none⟩=some (encS x)):
 SOwn B w (.slice (some ⟨g,0,none⟩) l.length cap) l:=by
 refine⟨by simp,.inr ⟨g,cap,cur,rfl,hB,hh,h3,h4,by omega,?_⟩⟩;refine List.ext_getElem (by simp;omega) fun t p q=>?_
 rw[List.length_map]at q;have e2:=hc t l[t] (List.getElem?_eq_getElem q);have e3:(cur.toList)[t]?=some (encS l[t]):=by simpa[World.cell?,hh]using e2
 have e4:(cur.toList.take (l.length*1))[t]?=(l.map encS)[t]?:=by
  rw[List.getElem?_take,if_pos (by omega),e3,List.getElem?_map,List.getElem?_eq_getElem q];rfl
 rw[List.getElem?_eq_getElem p,List.getElem?_eq_getElem (by rw[List.length_map];exact q)]at e4;exact Option.some.inj e4
theorem SOwn.set{B:Nat}{w:World}{g cap n:Nat}{l:List Sv}(h:SOwn B w (.slice (some ⟨g,0,none⟩) n cap) l)(i:Nat)(x:Sv):SOwn B (w.setCell ⟨g,i,none⟩ (encS x)) (.slice (some ⟨g,0,none⟩) n cap) (l.set i x):=by
 obtain⟨cur,h1,hh,rfl,h3,h4,h5,hc,hf⟩:=h.block;obtain⟨cur',k1,k2⟩:=setCells_heap [encS x] i w cur hh;have:=SOwn.of_cells (B:=B) (cap:=cap) (l:=l.set i x) h1 k2 (by simpa using h3) h4 (by omega) fun j y hj=>by
  by_cases e:j=i
  · subst e
    (have hjl:j<l.length:=by have:=(List.getElem?_eq_some_iff.1 hj).1;simpa using this);rw[List.getElem?_set_self hjl]at hj;simp only[Option.some.injEq]at hj;subst hj;exact World.cell?_setCell_same' _ _ _ (by rw[hc j l[j] (List.getElem?_eq_getElem hjl)];rfl)
  · rw[List.getElem?_set_ne (fun e2=>e e2.symm)]at hj
    rw[World.cell?_setCells_out g _ _ _ _ (fun _ _=>by show j<i∨i+1≤j;omega)];exact hc j y hj
 rw[List.length_set]at this;exact this
theorem SOwn.off{B:Nat}{w:World}{g cap n:Nat}{l:List Sv}(h:SOwn B w (.slice (some ⟨g,0,none⟩) n cap) l)(i:Nat)(y:List Sv)(hy:i+y.length≤n):SOwn B (w.setCells g i (y.map encS)) (.slice (some ⟨g,0,none⟩) n cap) (l.take i++(y++l.drop (i+y.length))):=by
 induction y generalizing i l w with
 |nil=>
  have e:l.take i++([]++l.drop (i+([]:List Sv).length))=l:=by simp
  rw[e];exact h
 |cons x y ih=>
  have h1:=h.set i x;have h2:=ih h1 (i+1) (by simp at hy;omega);obtain⟨_,_,_,hn,_⟩:=h.block;have e:(l.set i x).take (i+1)++(y++(l.set i x).drop (i+1+y.length))=l.take i++(x::y++l.drop (i+(x::y).length)):=by
   (have hi:i<l.length:=by simp at hy;omega);rw[List.take_succ_eq_append_getElem (by simpa using hi),List.take_set_of_le (Nat.le_refl _),List.drop_set_of_lt (by omega)];simp;congr 1;omega
  rw[e]at h2;exact h2
theorem SOwn.cut{B:Nat}{w:World}{g cap n:Nat}{l:List Sv}(h:SOwn B w (.slice (some ⟨g,0,none⟩) n cap) l)(j:Nat)(hj:j≤n)(vs:List Value):SOwn B (w.setCells g j vs) (.slice (some ⟨g,0,none⟩) j cap) (l.take j):=by
 obtain⟨cur,h1,hh,rfl,h3,h4,h5,hc,hf⟩:=h.block;obtain⟨cur',k1,k2⟩:=setCells_heap vs j w cur hh;have hl:(l.take j).length=j:=by simp;omega
 have:=SOwn.of_cells (B:=B) (cap:=cap) (l:=l.take j) h1 k2 (by omega) h4 (by omega) fun i y hi=>by
  have hil:=(List.getElem?_eq_some_iff.1 hi).1;rw[hl]at hil;rw[List.getElem?_take,if_pos hil]at hi;rw[World.cell?_setCells_out g _ _ _ _ (fun _ _=>by show i<_∨_;omega)];exact hc i y hi
 rw[hl]at this;exact this
theorem encS_one(l:List Sv):∀v∈l.map encS,v.oneCell'=true:=by
 intro v hv;obtain⟨x,_,rfl⟩:=List.mem_map.1 hv;rfl
theorem append_overS{B:Nat}{w:World}{g cap n:Nat}{l:List Sv}(h:SOwn B w (.slice (some ⟨g,0,none⟩) n cap) l)(i j m:Nat)(hij:i≤j)(hj:j+m=n)(ad:Option Addr)(c:Nat)(had:0<m→ad=some ⟨g,j,none⟩)(ty:TypeId):
 (Builtin.append_ #[80,80] ty #[.slice (some ⟨g,0,none⟩) i cap,.slice ad m c]).run Tryz.prog w = .ok (.slice (some ⟨g,0,none⟩) (i+m) cap) (w.setCells g i ((l.drop j).map encS)):=by
 obtain⟨cur,h1,hh,hn,h3,h4,h5,hc,hf⟩:=h.block;rcases Nat.eq_zero_or_pos m with rfl|hm
 · have e:l.drop j=[]:=List.drop_eq_nil_of_le (by omega)
   (have hic:i≤cap:=by omega);rw[e];cases ad
   · go_simp
     rfl
   · go_simp
     rfl
 · obtain⟨i0,hi,hz0,hz1,hz2⟩:=info_parts info_S
   rw[had hm];(have hl:(l.drop j).length=m:=by rw[List.length_drop];omega);(have hadd:∀k,(⟨g,j,none⟩:Addr).add k=⟨g,j+k,none⟩:=fun k=>by unfold Addr.add;split<;>simp_all);have:=run_append_room_cells (P:=Tryz.prog) w 80 ty 34 i0 Tryz.underlying80 hi g 0 i cap ⟨g,j,none⟩ m c ((l.drop j).map encS) (by rw[List.length_map,hl,hz1,Nat.mul_one]) (fun k u hk=>by
    rw[List.getElem?_map]at hk;obtain⟨x,hx,rfl⟩:=Option.map_eq_some_iff.1 hk;rw[hadd];exact hc (j+k) x (by rw[←List.getElem?_drop];exact hx)) (encS_one _) (by omega) (fun k hk=>by
    rw[List.length_map,hl]at hk;rw[hz1];simp[World.cell?,hh];omega) (fun k _=>hf _)
   rw[hz1,Nat.zero_add,Nat.mul_one]at this;exact this
theorem clear_ownS{B:Nat}{w:World}{g cap n:Nat}{l:List Sv}(h:SOwn B w (.slice (some ⟨g,0,none⟩) n cap) l)(j m c:Nat)(hj:j+m=n)(ty:TypeId):
 ∃vs,(Builtin.clear_ #[80] ty #[.slice (some ⟨g,j,none⟩) m c]).run Tryz.prog w = .ok (.tuple #[]) (w.setCells g j vs):=by
 obtain⟨cur,h1,hh,rfl,h3,h4,h5,hc,hf⟩:=h.block;cases m with
 |zero=>exact⟨[],by simp[Builtin.clear_,run_underlying Tryz.underlying80];rfl⟩
 |succ m=>
  have hz:∀w,(zeroValue 34).run Tryz.prog w = .ok (.slice none 0 0) w:=Tryz.zeroValue34
  let vs:=(Builtin.zeroCells (Value.slice none 0 0).cells (m+1)).toList
  have hlen:vs.length=(m+1):=by simp[vs,Builtin.zeroCells,Value.cells]
  have hone:∀v∈vs,v.oneCell'=true:=by
   intro v hv;simp only[vs,Builtin.zeroCells,Value.cells,Array.toList_map,List.mem_map]at hv;obtain⟨i,_,rfl⟩:=hv;show(Array.getD _ _ _:Value).oneCell'=true;simp[Nat.mod_one];rfl
  have hst:=run_storeCells_cells (P:=Tryz.prog) g j vs 0 w (fun t ht=>by
   (have hsz:j+0+t<cur.size:=by omega);simp[World.cell?,hh];omega) (fun t _=>hf _) hone
  refine⟨vs,?_⟩;simp only[Nat.add_zero]at hst;simp[Builtin.clear_,run_underlying Tryz.underlying80,hz];rw[show(Builtin.zeroCells (Value.slice none 0 0).cells (m+1)).toList=vs from rfl];simp[hst]
end Go.Proofs.YthecngkdmnadoaaGreat

namespace Go.Proofs.YthecngkdmnadoaaGreat
open Go.RowKit
set_option maxRecDepth 100000
set_option maxHeartbeats 1000000 in
theorem deleteS_any(B:Nat)(w:World)(g cap n i j:Nat)(l:List Sv)(h:SOwn B w (.slice (some ⟨g,0,none⟩) n cap) l)(hij:i≤j)(hj:j≤n)(hn:n<1099511627776):
 Calls Tryz.prog 60 #[.slice (some ⟨g,0,none⟩) n cap,.int .i64 i,.int .i64 j] w fun e w'=>e = .returned (.slice (some ⟨g,0,none⟩) (n-(j-i)) cap)∧SOwn B w' (.slice (some ⟨g,0,none⟩) (n-(j-i)) cap) (l.take i++l.drop j)∧But g w w':=by
 obtain⟨cur,h1,hh,hnl,h3,h4,h5,hc,hf⟩:=h.block;have HN:Hid (n=l.length):=hnl;have H:Hid (SOwn B w (.slice (some ⟨g,0,none⟩) n cap) l):=h;clear h hh hc hf h5 hnl h1;have hz1:(i:Int)≤(j:Int):=by omega
 have hz2:(j:Int)≤(n:Int):=by omega
 have hz3:(i:Int)≤(n:Int):=by omega
 have hz4:(n:Int)≤(cap:Int):=by omega
 by_cases he:i=j
 · subst he
   have HE:Hid (l.take i++l.drop i=l):=List.take_append_drop i l;(have hnn:n-(i-i)=n:=by omega);rw[hnn,HE.out];clear hnn HE;(have hic:i≤cap:=by omega);by_cases hni:n=i
   · subst hni
     go_enter Tryz.func60,Tryz.ntmps60;go_wp2_with fail;go_ret;exact⟨rfl,H.out,But.refl _ _⟩
   go_enter Tryz.func60,Tryz.ntmps60;go_wp2_with fail;go_ret;exact⟨rfl,H.out,But.refl _ _⟩
 · have heb:((i:Int)==(j:Int))=false:=beq_eq_false_iff_ne.2 (by omega)
   obtain⟨m,hm⟩:∃m,j+m=n:=⟨n-j,by omega⟩;(have hic:i≤cap:=by omega);(have hjc:j≤cap:=by omega);(have hnm:n-j=m:=by omega);(have hcut:(n:Int)-(j:Int)=(m:Int):=by omega);(have hnk:n-(j-i)=i+m:=by omega);rw[hnk];go_enter Tryz.func60,Tryz.ntmps60;(go_upto_region 5 with fail);refine region_at (S:=fun _=>True) 8 rfl (by kernel_rfl) trivial (fun _=>?_);refine tq4 id 0 20 1 21 2 22 3 23 ?_;simp only[sZa,sZb,sZc];refine tq2 id 4 24 5 25 ?_;simp only[sZa,sZb,sZc];have hd:SOwn B w.drew (.slice (some ⟨g,0,none⟩) n cap) l:=H.out;refine one_value (i:=6) (v := .slice (some ⟨g,0,none⟩) (i+m) cap) (w':=w.drew.setCells g i ((l.drop j).map encS)) 26 (by kernel_rfl) rfl rfl (by rfl) (exec_append_run _ _ 80 rfl rfl rfl (append_overS hd i j m (by omega) hm _ _ (fun h0=>if_neg (by omega)) _)) trivial (fun _=>?_);simp only[sZa,sZb,sZc];(have hlen:(l.drop j).length=m:=by rw[List.length_drop,←HN.out];omega);have h2:=hd.off i (l.drop j) (by rw[hlen];omega);have HB2:Hid (But g w (w.drew.setCells g i ((l.drop j).map encS))):=((But.refl g w).drew).setCells _ _;obtain⟨w2,hw2⟩:∃w2,w.drew.setCells g i ((l.drop j).map encS)=w2:=⟨_,rfl⟩;rw[hw2]at h2 HB2 ⊢;refine one_value (i:=7) (v := .slice (some ⟨g,0,none⟩) (i+m) cap) (w':=w2) 0 (by kernel_rfl) rfl rfl (by rfl) (by kernel_rfl) trivial (fun _=>?_);refine wpAnyH_done (by kernel_rfl) ?_ _;simp only[List.setIfInBounds_toArray,List.set_cons_zero];have HE:Hid ((l.take i++(l.drop j++l.drop (i+(l.drop j).length))).take (i+m)=l.take i++l.drop j):=by
    show _=_;(have e1:(l.take i).length=i:=by rw[List.length_take,←HN.out];omega);rw[←List.append_assoc];refine List.take_left' ?_;rw[List.length_append,e1,hlen]
   obtain⟨L,hL⟩:∃L,l.take i++(l.drop j++l.drop (i+(l.drop j).length))=L:=⟨_,rfl⟩;rw[hL]at h2 HE;obtain⟨q,hq⟩:∃q,i+m=q:=⟨_,rfl⟩;have HQ:Hid (i+m=q):=hq;rw[hq]at HE;simp only[hq];generalize (if cap=j then some (⟨g,0,none⟩:Addr)else some ⟨g,j,none⟩)=ad;obtain⟨k,hk⟩:∃k,q+k=n:=⟨n-q,by omega⟩;obtain⟨vs,hvs⟩:=clear_ownS h2 q k (cap-q) hk 0;have HO2:Hid (SOwn B (w2.setCells g q vs) (.slice (some ⟨g,0,none⟩) q cap) (L.take q)):=h2.cut q (by omega) vs;have HB3:Hid (But g w (w2.setCells g q vs)):=HB2.out.setCells _ _;(have hqc:q<cap:=by omega);(have hqn:q<n:=by omega);(have eni:n-q=k:=by omega);(have eniz:(n:Int)-(q:Int)=(k:Int):=by omega);clear h2 hd hL hw2 hlen HB2 hnk hcut hnm hm hq;go_wp2_with fail;go_ret;have e:=HQ.out;subst e;exact⟨rfl,by rw[←HE.out];exact HO2.out,HB3.out⟩
end Go.Proofs.YthecngkdmnadoaaGreat

namespace Go.Proofs.YthecngkdmnadoaaGreat
open Go.RowKit
set_option maxRecDepth 100000
def downTo(l:List Pl)(i:Nat):Nat→Nat
 |0=>0
 |n+1=>if (l.getD (n+1) (0,0)).2>i then downTo l i n else n+1
theorem downTo_le(l:List Pl)(i:Nat):∀n,downTo l i n≤n
 |0=>Nat.le_refl _
 |n+1=>by
  rw[downTo]
  split
  · have:=downTo_le l i n;omega
  · exact Nat.le_refl _
def aheadR(d:DS)(a:Int)(l:List Pl)(i:Nat):Int×DS:=
 if downTo l i (l.length-1)=0 then (0,d)else if stepE d=0 then frsR (syD d a) (l.take (downTo l i (l.length-1)))else (stepE d,syD d a)
theorem aheadR_none{d:DS}{a:Int}{l:List Pl}{i:Nat}(h:downTo l i (l.length-1)=0):aheadR d a l i=(0,d):=if_pos h
def AheadSays(B N b t:Nat)(R:Int×DS)(fp:List Nat)(n:WN)(v:WV)(l:List Pl)(w:World)(e:Ending)(w':World):Prop:=
 e = .returned (.int .i64 R.1)∧(∃fp',DiskAt N w' v.p R.2 fp'∧∀x∈fp',x∈fp∨w.heap.size≤x)∧Only (b::(ownB v.pa++fp)) w w' ∧
  ((R.1=0∧WalAt w' b n { v with pn:=v.pn-t }∧QOwn B w' (.slice v.pa (v.pn-t) v.pc) (l.drop t))∨(R.1≠0∧WalAt w' b n v∧QOwn B w' (.slice v.pa v.pn v.pc) l))
def S3(b p:Nat)(a:Int)(W:World):Prop:=W.cell? ⟨b,0,none⟩=some (.pointer (some ⟨p,0,none⟩))∧W.cell? ⟨b,5,none⟩=some (.int .u64 a)
theorem S3.facts{b p:Nat}{a:Int}{W:World}(h:S3 b p a W):W.cell? ⟨b,0,none⟩=some (.pointer (some ⟨p,0,none⟩))∧W.cell? ⟨b,5,none⟩=some (.int .u64 a):=h
theorem aheadR_dead{d:DS}{a:Int}{l:List Pl}{i t:Nat}(h:downTo l i (l.length-1)=t+1)(h0:¬stepE d=0):aheadR d a l i=(stepE d,syD d a):=by
 unfold aheadR;rw[h,if_neg (by omega),if_neg h0]
theorem aheadR_some{d:DS}{a:Int}{l:List Pl}{i t:Nat}(h:downTo l i (l.length-1)=t+1)(h0:stepE d=0):aheadR d a l i=frsR (syD d a) (l.take (t+1)):=by
 unfold aheadR;rw[h,if_neg (by omega),if_pos h0]
set_option maxHeartbeats 4000000 in
theorem freeAhead_any(B N b i:Nat)(d:DS)(fp:List Nat)(n:WN)(v:WV)(l:List Pl)(w:World)(h:DiskAt N w v.p d fp)(hw:WalAt w b n v)(hN:N<549755813887)(hq:QOwn B w (.slice v.pa v.pn v.pc) l)(hkn:v.pn<549755813888)
 (hbf:b∉fp) (hgf:∀x∈ownB v.pa,x∉fp∧x≠b) (hl:∀x∈l,x.1≤1152921504606846976):
 Calls Tryz.prog 59 #[.pointer (some ⟨b,0,none⟩),.int .u64 i] w (AheadSays B (N+1+l.length) b (downTo l i (l.length-1)) (aheadR d n.area l i) fp n v l w):=by
 have HD:Hid (DiskAt N w v.p d fp):=h;have HQ:Hid (QOwn B w (.slice v.pa v.pn v.pc) l):=hq;have HW:Hid (WalAt w b n v):=hw;have HF:Hid (b∉fp∧(∀x∈ownB v.pa,x∉fp∧x≠b)):=⟨hbf,hgf⟩;have HL:Hid (∀x∈l,x.1≤1152921504606846976):=hl;have hlen:v.pn=l.length:=by
  obtain⟨ad,cap,e⟩:=hq.shape;simp only[Value.slice.injEq]at e;exact e.2.1
 have HLEN:Hid (v.pn=l.length):=hlen;have HNONE:Hid (downTo l i (l.length-1)=0→AheadSays B (N+1+l.length) b (downTo l i (l.length-1)) (aheadR d n.area l i) fp n v l w (.returned (.int .i64 0)) w):=by
  intro h0;rw[aheadR_none h0,h0];exact⟨rfl,⟨fp,HD.out.mono (by omega),fun _ hx => .inl hx⟩,Only.refl _ _,.inl ⟨rfl,HW.out,HQ.out⟩⟩
 obtain⟨c0,c1,c2,c3,c4,c5,c6,c7,c8,c9,hz⟩:=hw.cells;by_cases h0:l.length=0
 · rw[hlen,h0]at c3
   have HN2:Hid (AheadSays B (N+1+l.length) b (downTo l i (l.length-1)) (aheadR d n.area l i) fp n v l w (.returned (.int .i64 0)) w):=HNONE.out (by rw[h0];rfl);clear HNONE c0 c1 c2 c4 c6 c7 c8 c9 h hq hlen hl hgf hw h0;go_enter Tryz.func59,Tryz.ntmps59;go_wp2_with fail;refine wp_loop_rounds 1 ?_;rw[rounds_succ];go_wp2_with fail;go_ret;exact HN2.out
 obtain⟨m,hm⟩:∃m,l.length=m+1:=⟨l.length-1,by omega⟩;have hpn:v.pn=m+1:=by omega
 obtain⟨g,off,hpg,hg,hc⟩:=hq.row.at (by omega);have HC:Hid (∀i x,l[i]?=some x→TwoQ w g (off+i*2) x):=hc;have HM:Hid (l.length=m+1):=hm;rw[hpg,hpn]at c3;have hl1:l.length-1=m:=by omega
 rw[hl1]at HNONE ⊢;clear c1 c2 c4 c6 c7 c8 c9 h hq hlen hl hgf hw hc h0 hl1 hm;have hsub:((m+1:Nat):Int)-1=(m:Int):=by omega
 go_enter Tryz.func59,Tryz.ntmps59;go_wp2_with fail
 go_loopw [5] (fun v5 wr=>∃t:Nat,v5 = .int .i64 t∧t≤m∧downTo l i m=downTo l i t∧wr=w) (fun v5 _=>(intOf v5).toNat)
 case atStart=>exact⟨m,rfl,Nat.le_refl _,rfl,rfl⟩
 case round=>
  obtain⟨t,rfl,ht,hdt,hwr⟩:=hrel;subst wr;have HDT:Hid (downTo l i m=downTo l i t):=hdt;clear hdt;cases t with
  |zero=>
   have HN2:Hid (AheadSays B (N+1+l.length) b (downTo l i m) (aheadR d n.area l i) fp n v l w (.returned (.int .i64 0)) w):=HNONE.out HDT.out;clear HNONE;go_wp2_with fail;go_ret;exact HN2.out
  |succ t=>
   obtain⟨x,hx⟩:∃x,l[t+1]?=some x:=⟨_,List.getElem?_eq_getElem (by rw[HM.out];omega)⟩;obtain⟨t0,t1⟩:=HC.out (t+1) x hx;(have hgd:(l.getD (t+1) (0,0))=x:=by rw[List.getD_eq_getElem?_getD,hx];rfl);(have hpos:(0:Int)<((t+1:Nat):Int):=by omega);(have hlt:t+1<m+1:=by omega);clear HNONE;by_cases hgt:x.2>i
   · have hgz:(i:Int)<(x.2:Int):=by omega
     have HE:Hid (downTo l i m=downTo l i t):=by
      show _=_;rw[HDT.out,downTo,hgd,if_pos hgt]
     clear hgd hx;go_wp2_with fail
     go_roundw
     (case rel=>exact⟨t,by go_num,by omega,HE.out,by trivial⟩);case measure=>simp[intOf]
   · have hgz:¬(i:Int)<(x.2:Int):=by omega
     have HE:Hid (downTo l i m=t+1):=by
      show _=_;rw[HDT.out,downTo,hgd,if_neg hgt]
     have hpl:v.p∈fp:=HD.out.mem;obtain⟨p,hp⟩:∃p,v.p=p:=⟨_,rfl⟩;rw[hp]at c0 hpl;have hb0:b<w.heap.size:=HW.out.lt;have HS:Hid (S3 b p (n.area:Int) w.drew):=⟨c0,c5⟩;have HD1:Hid (DiskAt N w.drew p d fp):=by
      have hd:DiskAt N w.drew v.p d fp:=HD.out.below (Below.refl _ w).drew;rw[hp]at hd;exact hd
     have hle:((t:Int)+1≤0)=False:=by
      simp only[eq_iff_iff,iff_false];omega
     clear hgd hx;go_wp2_with fail;clear c0 c5;refine region_at (S:=S3 b p (n.area:Int)) 11 rfl (by kernel_rfl) HS.out (fun _=>?_);refine tq4 S3.facts 0 31 1 32 2 33 3 34 ?_;simp only[sZa,sZb,sZc];refine tq4 S3.facts 4 35 5 36 6 37 7 38 ?_;simp only[sZa,sZb,sZc];refine tq S3.facts 8 39 ?_;simp only[sZa,sZb,sZc];refine one_call (i:=9) (w0:=w.drew) 40 26 #[.pointer (some ⟨p,0,none⟩),.int .u64 (n.area:Int)] (by kernel_rfl) rfl rfl (by rfl) (by kernel_rfl) ?_;refine(Sync_any N p d fp _ _ HD1.out (by omega)).mono ?_;rintro e w1 ⟨rfl,fp1,hD1,hO1,hs1⟩;have hbk:w1.heap[b]?=w.heap[b]?:=hO1.block b hb0 hbf;have HS1:Hid (S3 b p (n.area:Int) w1):=by
      obtain⟨q0,q1⟩:=HS.out;refine⟨?_,?_⟩
      · unfold World.cell? at q0 ⊢
        rw[hbk];exact q0
      · unfold World.cell? at q1 ⊢
        rw[hbk];exact q1
     refine⟨_,rfl,HS1.out,fun _=>?_⟩;simp only[sZa,sZb,sZc];refine one_value (i:=10) (v := .int .i64 (stepE d)) (w':=w1) 6 (by kernel_rfl) rfl rfl (by rfl) (by kernel_rfl) HS1.out (fun _=>?_);refine wpAnyH_done (by kernel_rfl) ?_ _;simp only[sZa,sZb,sZc];have HO1:Hid (Only fp w w1):=⟨hO1.os,hO1.tape,hO1.output,hO1.size,hO1.block⟩;have HW1:Hid (WalAt w1 b n v):=hbk.trans HW.out;have HQ1:Hid (QOwn B w1 (.slice v.pa v.pn v.pc) l):=HQ.out.only HO1.out (fun ad n c e=>by simp only[Value.slice.injEq]at e;rw[←e.1];exact fun x hx=>(HF.out.2 x hx).1);have HDD:Hid (DiskAt (N+1) w1 v.p (syD d (n.area:Int)) fp1):=hp.symm▸hD1;have HSB:Hid (∀x∈fp1,x∈fp∨w.heap.size≤x):=hs1;have HDL:Hid (downTo l i (l.length-1)=t+1):=by
      show _=_;rw[HM.out];exact HE.out
     clear hD1 hO1 hs1 HS HS1 HD1 hbk;by_cases hz0:stepE d=0
     · have HFF:Hid (Calls Tryz.prog 65 #[.pointer (some ⟨b,0,none⟩),.int .i64 ((t:Int)+1)] w1 (AheadSays B (N+1+l.length) b (downTo l i m) (aheadR d n.area l i) fp n v l w)):=by
        have hO:=HO1.out;have hbs:=HSB.out;have hown:∀x∈ownB v.pa,x<w.heap.size:=by
         intro x hx;rw[hpg]at hx;simp[ownB]at hx;rw[hx];exact hg
        have h1:=freeFront_any B (N+1) b (t+1) (syD d (n.area:Int)) fp1 n v l w1 HDD.out HW1.out (by omega) HQ1.out (by omega) hkn (fun hx=>by
         rcases hbs b hx with k|k
         · exact hbf k
         · omega) (fun x hx=>⟨fun hx'=>by
         rcases hbs x hx' with k|k
         · exact(HF.out.2 x hx).1 k
         · have:=hown x hx;omega,(HF.out.2 x hx).2⟩) HL.out
        (have e1:((t+1:Nat):Int)=(t:Int)+1:=by omega);rw[e1]at h1;refine h1.mono ?_;rintro e w2 ⟨rfl,⟨fp2,hD2,hs2⟩,hO2,hR⟩;rw[aheadR_some HDL.out hz0,HE.out];refine⟨rfl,⟨fp2,hD2.mono (by rw[HM.out];omega),fun x hx=>hbs x (hs2 x hx)⟩,?_,hR⟩;(refine(hO.wider (fp':=b::(ownB v.pa++fp)) (fun y hy=>by simp[hy])).trans hO2 fun x hx=>?_);rcases List.mem_cons.1 hx with rfl|hx
        · exact .inl (by simp)
        · rcases List.mem_append.1 hx with hx|hx
          · exact .inl (by simp[hx])
          · rcases hbs x hx with k|k
            · exact .inl (by simp[k])
            · exact .inr k
       rw[hz0];go_wp2_with (go_at_call 65;refine HFF.out.mono ?_;intro e w2 hA;obtain⟨rfl,hA2⟩:=id hA);go_ret;exact hA
     · have h0b:(stepE d==0)=false:=by simpa using hz0
       (have h0n:(stepE d != 0)=true:=by simpa using hz0);go_wp2_with fail;go_ret;rw[aheadR_dead HDL.out hz0];exact⟨rfl,⟨fp1,HDD.out.mono (by omega),HSB.out⟩,HO1.out.wider (fun y hy=>by simp[hy]),.inr ⟨hz0,HW1.out,HQ1.out⟩⟩
end Go.Proofs.YthecngkdmnadoaaGreat

namespace Go.Proofs.YthecngkdmnadoaaGreat
open Go.RowKit
set_option maxRecDepth 100000
set_option maxHeartbeats 1000000 in
theorem deleteS_nil(w:World):Calls Tryz.prog 60 #[.slice none 0 0,.int .i64 0,.int .i64 0] w fun e w'=>e = .returned (.slice none 0 0)∧w'=w:=by
 go_enter Tryz.func60,Tryz.ntmps60;go_wp2_with fail;go_ret;exact⟨rfl,rfl⟩
theorem deleteS_all(B:Nat)(w:World)(ad:Option Addr)(n c i j:Nat)(l:List Sv)(h:SOwn B w (.slice ad n c) l)(hij:i≤j)(hj:j≤n)(hn:n<1099511627776):
 Calls Tryz.prog 60 #[.slice ad n c,.int .i64 i,.int .i64 j] w fun e w'=>e = .returned (.slice ad (n-(j-i)) c)∧SOwn B w' (.slice ad (n-(j-i)) c) (l.take i++l.drop j)∧Only (ownB ad) w w':=by
 have h':=h;obtain⟨hl,⟨e,h0⟩|⟨g,cap,cur,e,hb,hh,h3,h4,h5,h6⟩⟩:=h'
 · simp only[Value.slice.injEq]at e
   obtain⟨rfl,rfl,rfl⟩:=e;(obtain rfl:j=0:=by omega);(obtain rfl:i=0:=by omega);obtain rfl:=List.eq_nil_of_length_eq_zero h0;refine(deleteS_nil w).mono ?_;rintro e w' ⟨rfl,rfl⟩;exact⟨rfl,h,Only.refl _ _⟩
 · simp only[Value.slice.injEq]at e
   obtain⟨rfl,-,rfl⟩:=e;refine(deleteS_any B w g c n i j l h hij hj hn).mono ?_;rintro e w' ⟨rfl,h1,h2⟩;exact⟨rfl,h1,⟨h2.os,h2.tape,h2.output,h2.size,fun k hk hx=>h2.block k hk fun e=>hx (by simp[ownB,e])⟩⟩
theorem SOwn.only{B:Nat}{w w':World}{ad:Option Addr}{n c:Nat}{l:List Sv}{fp:List Nat}(h:SOwn B w (.slice ad n c) l)(hb:Only fp w w')(hf:∀x∈ownB ad,x∉fp):SOwn B w' (.slice ad n c) l:=
 h.same fun g o n' c' e hg=>hb.block g hg (hf g (by simp only[Value.slice.injEq]at e;rw[e.1];simp[ownB]))
theorem WalAt.records{w:World}{b:Nat}{n:WN}{v:WV}(h:WalAt w b n v)(m:Nat):WalAt (w.setCell ⟨b,2,none⟩ (.slice v.ra m v.rc)) b { n with many:=m } v:=by
 unfold WalAt;rw[set_cell h 2 _];rfl
def S4(b f:Nat)(r:Value)(W:World):Prop:=W.cell? ⟨b,1,none⟩=some (.int .u64 (f:Int))∧W.cell? ⟨b,2,none⟩=some r
theorem S4.facts{b f:Nat}{r:Value}{W:World}(h:S4 b f r W):W.cell? ⟨b,1,none⟩=some (.int .u64 (f:Int))∧W.cell? ⟨b,2,none⟩=some r:=h
set_option maxHeartbeats 2000000 in
theorem cut_any(B b i:Nat)(n:WN)(v:WV)(l:List Sv)(w:World)(hw:WalAt w b n v)(hs:SOwn B w (.slice v.ra n.many v.rc) l)(hi:n.first≤i)(hi2:i≤n.first+n.many)(hn:n.many<1099511627776)(hgb:b∉ownB v.ra):
 Calls Tryz.prog 67 #[.pointer (some ⟨b,0,none⟩),.int .u64 i] w fun e w'=>e = .returned (.tuple #[])∧WalAt w' b { n with many:=i-n.first } v∧SOwn B w' (.slice v.ra (i-n.first) v.rc) (l.take (i-n.first))∧Only (b::ownB v.ra) w w':=by
 have hlen:n.many=l.length:=by
  obtain⟨ad,cap,e⟩:=hs.shape;simp only[Value.slice.injEq]at e;exact e.2.1
 obtain⟨k,hk⟩:∃k,i-n.first=k:=⟨_,rfl⟩;have hkz:(i:Int)-(n.first:Int)=(k:Int):=by omega
 have hww:IntKind.u64.wrap (k:Int)=(k:Int):=by simp[IntKind.wrap,IntKind.bits,IntKind.signed];omega
 have hwi:IntKind.i64.wrap (k:Int)=(k:Int):=by simp[IntKind.wrap,IntKind.bits,IntKind.signed];omega
 have HDEL:Hid (Calls Tryz.prog 60 #[.slice v.ra n.many v.rc,.int .i64 k,.int .i64 n.many] w.drew fun e w'=>e = .returned (.slice v.ra k v.rc)∧SOwn B w' (.slice v.ra k v.rc) (l.take k)∧Only (ownB v.ra) w.drew w'):=by
  have:=deleteS_all B w.drew v.ra n.many v.rc k n.many l (hs.same fun _ _ _ _ _ _=>rfl) (by omega) (Nat.le_refl _) hn;have e1:n.many-(n.many-k)=k:=by omega
  have e2:l.drop n.many=[]:=List.drop_eq_nil_of_le (by omega);rw[e1,e2,List.append_nil]at this;exact this
 have HW:Hid (WalAt w b n v):=hw;have hb0:=hw.lt;obtain⟨c0,c1,c2,c3,c4,c5,c6,c7,c8,c9,hz⟩:=hw.cells;have hS0:S4 b n.first (.slice v.ra n.many v.rc) w.drew:=⟨c1,c2⟩;rw[hk];clear c0 c3 c4 c5 c6 c7 c8 c9 hw hs hlen hk;go_enter Tryz.func67,Tryz.ntmps67;go_upto_region 0 with fail
 refine region_atE (S:=S4 b n.first (.slice v.ra n.many v.rc)) 21 20 rfl (by kernel_rfl) ?_;refine te4 S4.facts 0 4 1 5 2 6 3 7 ?_;simp only[sZa,sZb,sZc];refine te4 S4.facts 4 8 5 9 6 10 7 11 ?_;simp only[sZa,sZb,sZc];refine te4 S4.facts 8 12 9 13 10 14 11 15 ?_;simp only[sZa,sZb,sZc];refine te4 S4.facts 12 16 13 17 14 18 15 19 ?_;simp only[sZa,sZb,sZc];refine te S4.facts 16 20 ?_;simp only[sZa,sZb,sZc];refine one_callE (i:=17) (w0:=w.drew) 21 60 #[.slice v.ra n.many v.rc,.int .i64 k,.int .i64 n.many] (by kernel_rfl) rfl rfl (by rfl) (by kernel_rfl) ?_;refine HDEL.out.mono ?_;rintro e w1 ⟨rfl,hs1,hO1⟩;have hW1:WalAt w1 b n v:=(hO1.block b hb0 hgb).trans HW.out;obtain⟨d0,d1,d2,d3,d4,d5,d6,d7,d8,d9,dz⟩:=hW1.cells;have hS1:S4 b n.first (.slice v.ra n.many v.rc) w1:=⟨d1,d2⟩;refine⟨_,rfl,hS1,?_⟩;simp only[sZa,sZb,sZc];refine one_valueE (i:=18) (v := .pointer (some ⟨b,0,none⟩)) (w':=w1) 22 (by kernel_rfl) rfl rfl (by rfl) (by kernel_rfl) hS1 ?_;simp only[sZa,sZb,sZc];refine one_valueE (i:=19) (v := .pointer (some ⟨b,2,none⟩)) (w':=w1) 23 (by kernel_rfl) rfl rfl (by rfl) (by kernel_rfl) hS1 ?_;simp only[sZa,sZb,sZc];clear d0 d1 d3 d4 d5 d6 d7 d8 d9;refine last_skipE (w':=w1.setCell ⟨b,2,none⟩ (.slice v.ra k v.rc)) (by kernel_rfl) rfl rfl (by rfl) (by go_simp;first|done|exact rfl) (by kernel_rfl) ?_
 go_end0
 have hOb:Only [b] w1 (w1.setCell ⟨b,2,none⟩ (.slice v.ra k v.rc)):=(Only.refl _ _).setCell (by simp) _ _;have hO0:Only (b::ownB v.ra) w w1:=⟨hO1.os,hO1.tape,hO1.output,hO1.size,fun j hj hx=>hO1.block j hj fun hy=>hx (by simp[hy])⟩;refine⟨rfl,hW1.records k,hs1.only hOb (fun x hx hx'=>?_),hO0.then hOb (fun y hy=>by rw[List.mem_singleton]at hy;simp[hy])⟩;rw[List.mem_singleton]at hx';exact hgb (hx'▸hx)
end Go.Proofs.YthecngkdmnadoaaGreat

namespace Go.Proofs.YthecngkdmnadoaaGreat
open Go.RowKit
set_option maxRecDepth 100000
theorem frsR_e:∀(l:List Pl) (d:DS),(frsR d l).1=0∨(frsR d l).1=30
 |[],_ => .inl rfl
 |x::r,d=>by
  rw[frsR]
  split
  · exact frsR_e r _
  · rename_i h
    have:stepE d=0∨stepE d=30:=by
     unfold stepE
     split
     · exact .inr rfl
     · split
       · exact .inr rfl
       · exact .inl rfl
    rcases this with k|k
    · exact absurd k h
    · exact .inr k
def resetN(n:WN)(f:Nat):WN:={ first:=f,many:=0,next:=n.next,area:=4*n.next+1,sector:=0,tail:=0,adrift:=true,fault:=0 }
def resetV(v:WV):WV:={ v with ra:=none,rc:=0,pn:=0,ta:=none,tc:=0 }
theorem WalAt.reset{w:World}{b:Nat}{n:WN}{v:WV}(h:WalAt w b { n with fault:=0 } { v with pn:=0 })(f:Nat):
 WalAt ((((((w.setCell ⟨b,1,none⟩ (.int .u64 (f:Int))).setCell ⟨b,2,none⟩ (.slice none 0 0)).setCell ⟨b,5,none⟩ (.int .u64 (4*(n.next:Int)+1))).setCell ⟨b,6,none⟩ (.int .i64 0)).setCell ⟨b,7,none⟩ (.slice none 0 0)).setCell ⟨b,8,none⟩ (.bool true)) b (resetN n f) (resetV v):=by
 have h1:=set_cell h 1 (.int .u64 (f:Int));have h2:=set_cell h1 2 (.slice none 0 0);have h3:=set_cell h2 5 (.int .u64 (4*(n.next:Int)+1));have h4:=set_cell h3 6 (.int .i64 0);have h5:=set_cell h4 7 (.slice none 0 0);have h6:=set_cell h5 8 (.bool true);refine h6.trans ?_;have e:((4*n.next+1:Nat):Int)=4*(n.next:Int)+1:=by omega
 simp[walC,resetN,resetV]
set_option maxHeartbeats 1000000 in
theorem Reset_fault(b f:Nat)(n:WN)(v:WV)(w:World)(hw:WalAt w b n v)(hf:¬n.fault=0):Calls Tryz.prog 33 #[.pointer (some ⟨b,0,none⟩),.int .u64 f] w fun e w'=>e = .returned (.int .i64 n.fault)∧w'=w:=by
 obtain⟨c0,c1,c2,c3,c4,c5,c6,c7,c8,c9,hz⟩:=hw.cells;have h1:(n.fault==0)=false:=by simpa using hf
 have h2:(n.fault != 0)=true:=by simpa using hf
 clear c0 c1 c2 c3 c4 c5 c6 c7 c8 hw;go_enter Tryz.func33,Tryz.ntmps33;go_wp2_with fail;go_ret;exact⟨rfl,rfl⟩
set_option maxHeartbeats 1000000 in
theorem Reset_range(b f:Nat)(n:WN)(v:WV)(w:World)(hw:WalAt w b n v)(hf:n.fault=0)(hr:4611686018427387904<f):Calls Tryz.prog 33 #[.pointer (some ⟨b,0,none⟩),.int .u64 f] w fun e w'=>e = .returned (.int .i64 51)∧w'=w:=by
 obtain⟨c0,c1,c2,c3,c4,c5,c6,c7,c8,c9,hz⟩:=hw.cells;rw[hf]at c9;have h1:(4611686018427387904:Int)<(f:Int):=by omega
 clear c0 c1 c2 c3 c4 c5 c6 c7 c8 hw;go_enter Tryz.func33,Tryz.ntmps33;go_wp2_with fail;go_ret;exact⟨rfl,rfl⟩
def ResetSays(B N b f:Nat)(R:Int×DS)(fp:List Nat)(n:WN)(v:WV)(l:List Pl)(w:World)(e:Ending)(w':World):Prop:=
 e = .returned (.int .i64 R.1)∧(∃fp',DiskAt N w' v.p R.2 fp'∧∀x∈fp',x∈fp)∧Only (b::(ownB v.pa++fp)) w w' ∧
  ((R.1=0∧WalAt w' b (resetN n f) (resetV v)∧QOwn B w' (.slice v.pa 0 v.pc) [])∨(R.1≠0∧WalAt w' b { n with fault:=R.1 } v∧QOwn B w' (.slice v.pa v.pn v.pc) l))
set_option maxHeartbeats 2000000 in
theorem Reset_any(B N b f:Nat)(d:DS)(fp:List Nat)(n:WN)(v:WV)(l:List Pl)(w:World)(h:DiskAt N w v.p d fp)(hw:WalAt w b n v)(hN:N<549755813888)(hq:QOwn B w (.slice v.pa v.pn v.pc) l)(hkn:v.pn<549755813888)
 (hbf:b∉fp) (hgf:∀x∈ownB v.pa,x∉fp∧x≠b) (hl:∀x∈l,x.1≤1152921504606846976) (hf:n.fault=0) (hfe:f≤4611686018427387904) (hnx:n.next≤1152921504606846976):
 Calls Tryz.prog 33 #[.pointer (some ⟨b,0,none⟩),.int .u64 f] w (ResetSays B (N+v.pn) b f (frsR d l) fp n v l w):=by
 have HFF:Hid (∀w0,Only [] w w0→Calls Tryz.prog 65 #[.pointer (some ⟨b,0,none⟩),.int .i64 v.pn] w0 fun e w'=>e = .returned (.int .i64 (frsR d l).1)∧(∃fp',DiskAt (N+v.pn) w' v.p (frsR d l).2 fp'∧∀x∈fp',x∈fp)∧Only (b::(ownB v.pa++fp)) w0 w' ∧
  (((frsR d l).1=0∧WalAt w' b n { v with pn:=0 }∧QOwn B w' (.slice v.pa 0 v.pc) [])∨((frsR d l).1≠0∧WalAt w' b n v∧QOwn B w' (.slice v.pa v.pn v.pc) l))):=by
  intro w0 h0;have hlen:v.pn=l.length:=by
   obtain⟨ad,cap,e⟩:=hq.shape;simp only[Value.slice.injEq]at e;exact e.2.1
  have:=freeFront_any B N b v.pn d fp n v l w0 (h.apart h0 (by simp)) ((h0.block b hw.lt (by simp)).trans hw) hN (hq.only h0 (by simp)) (Nat.le_refl _) hkn hbf hgf hl;have e1:l.take v.pn=l:=List.take_of_length_le (by omega);have e2:l.drop v.pn=[]:=List.drop_eq_nil_of_le (by omega);rw[e1,e2,Nat.sub_self]at this;exact this
 have HW:Hid (WalAt w b n v):=hw;obtain⟨c0,c1,c2,c3,c4,c5,c6,c7,c8,c9,hz⟩:=hw.cells;rw[hf]at c9;have hfz:¬((4611686018427387904:Int)<(f:Int)):=by omega
 clear c0 c1 c2 c5 c6 c7 c8 h hw hq;obtain⟨r,hr⟩:∃r,(frsR d l).1=r:=⟨_,rfl⟩;rw[hr]at HFF;rcases frsR_e l d with h0|h0
 · rw[hr]at h0
   subst h0;go_enter Tryz.func33,Tryz.ntmps33
   go_wp2_with (first
    |(go_at_call 65;refine(HFF.out _ (Only.refl _ _)).mono ?_;rintro e w1 ⟨rfl,hd1,hO1,⟨-,hW1,hq1⟩|⟨hx,-⟩⟩;rotate_left;(exact absurd rfl hx))
    |(go_at_call 48;refine(keep_any _ b n { v with pn:=0 } 0 hW1).mono ?_;rintro e w2 ⟨rfl,hw2⟩;rw[if_neg (by decide)]at hw2;have hW2:=(show WalAt w2 b { n with fault:=0 } { v with pn:=0 } from hw2▸hW1.fault 0);have HW2E:=(show Hid (w2=w1.setCell ⟨b,9,none⟩ (.int .i64 0))from hw2);clear hw2;obtain⟨d0,d1,d2,d3,d4,d5,d6,d7,d8,d9,dz⟩:=hW2.cells)
    |(go_at_call 38;refine(areaOf_any n.next _ hnx).mono ?_;rintro e w3 ⟨rfl,hw3⟩;subst w3))
   go_ret;have e2:=HW2E.out;obtain⟨fp',hD1,hs1⟩:=hd1;obtain⟨w5,hw5⟩:∃w5,(((((w2.setCell ⟨b,1,none⟩ (.int .u64 (f:Int))).setCell ⟨b,2,none⟩ (.slice none 0 0)).setCell ⟨b,5,none⟩ (.int .u64 (4*(n.next:Int)+1))).setCell ⟨b,6,none⟩ (.int .i64 0)).setCell ⟨b,7,none⟩ (.slice none 0 0)).setCell ⟨b,8,none⟩ (.bool true)=w5:=⟨_,rfl⟩;have hOb:Only [b] w1 w5:=by
    rw[←hw5,e2];exact(((((((Only.refl [b] w1).setCell (by simp) _ _).setCell (by simp) _ _).setCell (by simp) _ _).setCell (by simp) _ _).setCell (by simp) _ _).setCell (by simp) _ _).setCell (by simp) _ _
   have hW5:WalAt w5 b (resetN n f) (resetV v):=hw5▸hW2.reset f;rw[hw5];refine⟨by rw[hr];rfl,⟨fp',hD1.apart hOb fun x hx hx'=>?_,hs1⟩,hO1.then hOb (fun y hy=>by rw[List.mem_singleton]at hy;simp[hy]),.inl ⟨hr,hW5,?_⟩⟩
   · rw[List.mem_singleton]at hx'
     exact hbf (hs1 b (hx'▸hx))
   · exact hq1.only hOb (fun ad n c e x hx hx'=>by
      simp only[Value.slice.injEq]at e;rw[←e.1]at hx;rw[List.mem_singleton]at hx';exact(hgf x hx).2 hx')
 · rw[hr]at h0
   subst h0;go_enter Tryz.func33,Tryz.ntmps33
   go_wp2_with (first
    |(go_at_call 65;refine(HFF.out _ (Only.refl _ _)).mono ?_;rintro e w1 ⟨rfl,hd1,hO1,⟨hx,-⟩|⟨-,hW1,hq1⟩⟩;(exact absurd hx (by decide)))
    |(go_at_call 48;refine(keep_any _ b n v 30 hW1).mono ?_;rintro e w2 ⟨rfl,hw2⟩;rw[if_neg (by decide)]at hw2;have HW2E:=(show Hid (w2=w1.setCell ⟨b,9,none⟩ (.int .i64 30))from hw2);clear hw2))
   go_ret;have e2:=HW2E.out;obtain⟨fp',hD1,hs1⟩:=hd1;have hOb:Only [b] w1 w2:=by
    rw[e2];exact(Only.refl [b] w1).setCell (by simp) _ _
   refine⟨by rw[hr];rfl,⟨fp',hD1.apart hOb fun x hx hx'=>?_,hs1⟩,hO1.then hOb (fun y hy=>by rw[List.mem_singleton]at hy;simp[hy]),.inr ⟨by rw[hr];decide,?_,?_⟩⟩
   · rw[List.mem_singleton]at hx'
     exact hbf (hs1 b (hx'▸hx))
   · rw[hr,e2]
     exact hW1.fault 30
   · exact hq1.only hOb (fun ad n c e x hx hx'=>by
      simp only[Value.slice.injEq]at e;rw[←e.1]at hx;rw[List.mem_singleton]at hx';exact(hgf x hx).2 hx')
end Go.Proofs.YthecngkdmnadoaaGreat
