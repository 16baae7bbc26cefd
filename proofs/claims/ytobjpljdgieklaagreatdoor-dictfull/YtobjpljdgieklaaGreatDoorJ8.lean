import Derived.Test.YtobjpljdgieklaaGreatDoorJ2
import Derived.Test.YtobjpljdgieklaaGreatDoorJ5
import Derived.Test.YtobjpljdgieklaaGreatDoorJ6
import Derived.Deep.QuietTactic
import Derived.BigQuiet
import Derived.Deep.Cut
import Derived.DeepKeys4
import Derived.Maps.Keyed
set_option maxRecDepth 100000
namespace Go.Proofs.YtobjpljdgieklaaGreatDoor
section
open Go.RowKit Nums Fm
def RunesAt(E:Nat)(w:World)(v:Value)(xs:List Int):Prop:=
 ∃ad cap,v = .slice ad xs.length cap∧(0<xs.length→∃g off,ad=some ⟨g,off,none⟩∧g<E∧∀i x,xs[i]?=some x→w.cell? ⟨g,off+i,none⟩=some (.int .i32 x))
theorem RunesAt.below{E:Nat}{w w':World}{v:Value}{xs:List Int}(h:RunesAt E w v xs)(hb:Below E w w'):RunesAt E w' v xs:=by
 obtain⟨ad,cap,rfl,hc⟩:=h;refine⟨ad,cap,rfl,fun h0=>?_⟩;obtain⟨g,off,rfl,hg,hx⟩:=hc h0;exact⟨g,off,rfl,hg,fun i x hi=>(hb.cell (p:=⟨g,off+i,none⟩) hg).trans (hx i x hi)⟩
theorem RunesAt.mono{E E':Nat}{w:World}{v:Value}{xs:List Int}(h:RunesAt E w v xs)(he:E≤E'):RunesAt E' w v xs:=by
 obtain⟨ad,cap,rfl,hc⟩:=h;refine⟨ad,cap,rfl,fun h0=>?_⟩;obtain⟨g,off,rfl,hg,hx⟩:=hc h0;exact⟨g,off,rfl,by omega,hx⟩
structure EntAt(E:Nat)(w:World)(g o:Nat)(v:Value)(e:En):Prop where
 c0:w.cell? ⟨g,o,none⟩=some v
 c1:w.cell? ⟨g,o+1,none⟩=some (.int .i64 e.2)
 rn:RunesAt E w v e.1
def ERow(E:Nat)(w:World)(v:Value)(l:List En):Prop:=
 ∃ad cap,v = .slice ad l.length cap∧l.length≤cap∧(0<l.length→∃g off,ad=some ⟨g,off,none⟩∧g<E∧∀i e,l[i]?=some e→∃u,EntAt E w g (off+i*2) u e)
theorem EntAt.below{E:Nat}{w w':World}{g o:Nat}{v:Value}{e:En}(h:EntAt E w g o v e)(hg:g<E)(hb:Below E w w'):EntAt E w' g o v e:=
 ⟨(hb.cell (p:=⟨g,o,none⟩) hg).trans h.c0,(hb.cell (p:=⟨g,o+1,none⟩) hg).trans h.c1,h.rn.below hb⟩
theorem ERow.below{E:Nat}{w w':World}{v:Value}{l:List En}(h:ERow E w v l)(hb:Below E w w'):ERow E w' v l:=by
 obtain⟨ad,cap,rfl,h1,hc⟩:=h;refine⟨ad,cap,rfl,h1,fun h0=>?_⟩;obtain⟨g,off,rfl,hg,hx⟩:=hc h0;refine⟨g,off,rfl,hg,fun i e hi=>?_⟩;obtain⟨u,hu⟩:=hx i e hi;exact⟨u,hu.below hg hb⟩
theorem ERow.at{E:Nat}{w:World}{ad:Option Addr}{n cap:Nat}{l:List En}(h:ERow E w (.slice ad n cap) l)(h0:0<n):∃g off,ad=some ⟨g,off,none⟩∧g<E∧n≤cap∧∀i e,l[i]?=some e→∃u,EntAt E w g (off+i*2) u e:=by
 obtain⟨ad',cap',e,h1,hc⟩:=h;simp only[Value.slice.injEq]at e;obtain⟨rfl,h2,rfl⟩:=e;obtain⟨g,off,h3,h4,h5⟩:=hc (by omega);exact⟨g,off,h3,h4,by omega,h5⟩
theorem ERow.form{E:Nat}{w:World}{v:Value}{l:List En}(h:ERow E w v l):∃ad cap,v = .slice ad l.length cap∧l.length≤cap:=by
 obtain⟨ad,cap,e,h1,_⟩:=h;exact⟨ad,cap,e,h1⟩
theorem zOu{l:List En}{k:Nat}{e:En}(h:l[k]?=some e)(m:Int):zAz m (l.take (k+1))=if e.2<zAz m (l.take k)then e.2 else zAz m (l.take k):=by
 have key:∀(l:List En) (m:Int) (e:En),zAz m (l++[e])=if e.2<zAz m l then e.2 else zAz m l:=by
  intro l
  induction l with
  |nil=>intro m e;rfl
  |cons x r ih=>intro m e;rw[List.cons_append,zAz,ih,zAz]
 rw[List.take_add_one,h];exact key _ _ _
set_option maxHeartbeats 1000000 in
theorem zIa(E:Nat)(w:World)(v:Value)(l:List En)(h:ERow E w v l)(h0:0<l.length)(hE:E≤w.heap.size)(hl:l.length≤1048576):
 Calls Tryz.prog 65 #[v] w fun e w'=>e = .returned (.int .i64 (least l))∧Below w.heap.size w w':=by
 obtain⟨ad,cap,rfl,hcap⟩:=h.form;have HR:Hid (ERow E w (.slice ad l.length cap) l):=h;obtain⟨n,hn⟩:∃n,l.length=n:=⟨_,rfl⟩;have HN:Hid (l.length=n):=hn;rw[hn]at HR hl h0 hcap;have h0z:(0:Int)<(n:Int):=by omega
 obtain⟨g,off,rfl,hg,_,hx⟩:=HR.out.at h0;obtain⟨e0,he0⟩:∃e0,l[0]?=some e0:=⟨l[0]'(by have:=HN.out;omega),List.getElem?_eq_getElem _⟩;obtain⟨u0,hu0⟩:=hx 0 e0 he0;obtain⟨a0,a1,_⟩:=hu0;rw[Nat.zero_mul,Nat.add_zero]at a0 a1;have HL:Hid (least l=zAz e0.2 l):=by
  show _=_;cases l with
  |nil=>simp at he0
  |cons x r=>simp only[List.getElem?_cons_zero,Option.some.injEq]at he0;subst he0;rfl
 clear h hx he0;rw[hn];clear hn;go_enter Tryz.func65,Tryz.ntmps65;go_wp2
 go_loopg [3,5,12] n (fun g s3 _ s12 wr=>∃(k:Nat),s12 = .int .i64 k∧k≤n∧n-k≤g∧s3 = .int .i64 (zAz e0.2 (l.take k))∧Hid (Below w.heap.size w wr))
 case atStart=>exact⟨0,rfl,Nat.zero_le _,by omega,by simp[zAz],Below.refl _ _⟩
 case round=>
  obtain⟨k,rfl,hk,hgm,rfl,HB⟩:=hrel;by_cases hlt:k<n
  · have hltz:(k:Int)<(n:Int):=by omega
    obtain⟨x,hx⟩:∃x,l[k]?=some x:=⟨l[k]'(by have:=HN.out;omega),List.getElem?_eq_getElem _⟩;have HRw:ERow E wr (.slice (some ⟨g,off,none⟩) n cap) l:=HR.out.below (HB.out.mono hE);obtain⟨g',off',e',hg',_,hcell⟩:=HRw.at (by omega);simp only[Option.some.injEq,Addr.mk.injEq]at e';obtain⟨rfl,rfl,_⟩:=e';obtain⟨u,hu⟩:=hcell k x hx;obtain⟨c0,c1,⟨ra,rc,rfl,_⟩⟩:=hu;have HS:Hid (zAz e0.2 (l.take (k+1))=if x.2<zAz e0.2 (l.take k)then x.2 else zAz e0.2 (l.take k)):=zOu hx _;(have HB2:Hid (∀o,Below w.heap.size w (wr.alloc o)):=fun o=>HB.out.alloc HB.out.size o);clear hcell hx HRw;generalize zAz e0.2 (l.take k)=m at *;go_wp2
    all_goals
     go_roundg (n-(k+1));(case measure=>omega);case rel=>exact⟨k+1,by go_num,by omega,Nat.le_refl _,by(first|(rw[HS.out,if_pos (by omega)];done)|(rw[HS.out,if_neg (by omega)];done)|(rw[HS.out];simp only[Int.min_def];split<;>split<;>first|rfl|(congr 1;omega))),HB2.out _⟩
  · have hltz:¬(k:Int)<(n:Int):=by omega
    (have HE:Hid (zAz e0.2 (l.take k)=zAz e0.2 l):=by show _=_;rw[List.take_of_length_le (by have:=HN.out;omega)]);go_wp2;go_ret;exact⟨by rw[HE.out,HL.out];rfl,HB.out⟩
theorem RunesAt.get{E:Nat}{w:World}{ad:Option Addr}{n cap:Nat}{xs:List Int}(h:RunesAt E w (.slice ad n cap) xs){k:Nat}(hk:k<xs.length):∃g off,ad=some ⟨g,off,none⟩∧n=xs.length∧w.cell? ⟨g,off+k,none⟩=some (.int .i32 ((xs.drop k).headD 0)):=by
 obtain⟨ad',cap',e,hc⟩:=h;simp only[Value.slice.injEq]at e;obtain⟨rfl,rfl,rfl⟩:=e;obtain⟨g,off,rfl,_,hx⟩:=hc (by omega);refine⟨g,off,rfl,rfl,?_⟩;have:=hx k xs[k] (List.getElem?_eq_getElem hk);rw[this,List.headD_eq_head?_getD,List.head?_drop,List.getElem?_eq_getElem hk];rfl
theorem zVy{c:Int}{k j:Nat}{l:List En}{e:En}(h:l[j]?=some e):lead c (cut k (l.drop j))=if hd (e.1.drop k,e.2)=c then lead c (cut k (l.drop (j+1)))+1 else 0:=by
 obtain⟨hj,rfl⟩:=List.getElem?_eq_some_iff.1 h;rw[List.drop_eq_getElem_cons hj,zCx,lead]
set_option maxHeartbeats 1000000 in
theorem zX5(E:Nat)(w:World)(v:Value)(l:List En)(k:Nat)(e0:En)(he0:l[0]?=some e0)(h:ERow E w v l)(hl:l.length≤1048576)(hlen:∀e∈l,k<e.1.length):
 Calls Tryz.prog 101 #[v,.int .i64 k] w fun e w'=>e = .returned (.int .i64 ((1+lead (hd (e0.1.drop k,e0.2)) (cut k (l.drop 1)):Nat):Int))∧∃q,w'=w.drewN q:=by
 obtain⟨ad,cap,rfl,hcap⟩:=h.form;have HR:Hid (ERow E w (.slice ad l.length cap) l):=h;obtain⟨n,hn⟩:∃n,l.length=n:=⟨_,rfl⟩;have HN:Hid (l.length=n):=hn;have HLEN:Hid (∀e∈l,k<e.1.length):=hlen;have h0:0<n:=by rw[←hn];exact(List.getElem?_eq_some_iff.1 he0).1
 rw[hn]at HR hl hcap;have h0z:(0:Int)<(n:Int):=by omega
 obtain⟨c,hc⟩:∃c,hd (e0.1.drop k,e0.2)=c:=⟨_,rfl⟩;obtain⟨A,hA⟩:∃A,1+lead c (cut k (l.drop 1))=A:=⟨_,rfl⟩;have HA:Hid (1+lead c (cut k (l.drop 1))=A):=hA;have HC:Hid (hd (e0.1.drop k,e0.2)=c):=hc;obtain⟨g,off,rfl,hg,_,hx⟩:=HR.out.at h0;obtain⟨u0,hu0⟩:=hx 0 e0 he0;obtain⟨a0,_,hr0⟩:=hu0;obtain⟨ra0,rc0,rfl,_⟩:=id hr0;have hk0:k<e0.1.length:=hlen e0 (List.mem_of_getElem? he0);obtain⟨g0,o0,rfl,_,d0⟩:=hr0.get hk0;rw[Nat.zero_mul,Nat.add_zero]at a0;obtain⟨n0,hn0⟩:∃n0,e0.1.length=n0:=⟨_,rfl⟩;rw[hn0]at a0 hk0;have hk0z:(k:Int)<(n0:Int):=by omega
 have d0':w.cell? ⟨g0,o0+k,none⟩=some (.int .i32 c):=by rw[d0,←hc];rfl
 rw[hn,hc,hA];clear h he0 hn hA hc d0 hr0 hn0 hlen;go_enter Tryz.func101,Tryz.ntmps101;go_wp2
 go_loopg [5] n (fun gm s5 wr=>∃(j:Nat),s5 = .int .i64 j∧j≤n∧1≤j∧n-j≤gm∧Hid (j+lead c (cut k (l.drop j))=A)∧Hid (∃q,wr=w.drewN q))
 case atStart=>exact⟨1,rfl,by omega,by omega,by omega,HA,0,rfl⟩
 case round=>
  obtain⟨j,rfl,hj,hj1,hgm,HJ,HW⟩:=hrel;obtain⟨q,rfl⟩:=HW.out;by_cases hlt:j<n
  · have hltz:(j:Int)<(n:Int):=by omega
    obtain⟨x,hxj⟩:∃x,l[j]?=some x:=⟨l[j]'(by have:=HN.out;omega),List.getElem?_eq_getElem _⟩;obtain⟨u,hu⟩:=hx j x hxj;obtain⟨c0,_,hr⟩:=hu;obtain⟨ra,rc,rfl,_⟩:=id hr;have hkx:k<x.1.length:=HLEN.out x (List.mem_of_getElem? hxj);obtain⟨g1,o1,rfl,_,d1⟩:=hr.get hkx;obtain⟨n1,hn1⟩:∃n1,x.1.length=n1:=⟨_,rfl⟩;rw[hn1]at c0 hkx;(have hkxz:(k:Int)<(n1:Int):=by omega);have HST:=zVy (c:=c) (k:=k) hxj;obtain⟨cx,hcx⟩:∃cx,hd (x.1.drop k,x.2)=cx:=⟨_,rfl⟩;(have d1':w.cell? ⟨g1,o1+k,none⟩=some (.int .i32 cx):=by rw[d1,←hcx];rfl);rw[hcx]at HST;clear hxj hr d1 hn1 hcx;by_cases hcc:cx=c
    · have hcb:(cx==c)=true:=beq_iff_eq.2 hcc
      (have HJ2:Hid (j+1+lead c (cut k (l.drop (j+1)))=A):=by show _=_;have:=HJ.out;rw[HST,if_pos hcc]at this;omega);clear HST hcc hx;(go_upto_region 2 with fail);go_quiet (fail);go_wp2;go_roundg (n-(j+1));(case measure=>omega);case rel=>exact⟨j+1,by go_num,by omega,by omega,Nat.le_refl _,HJ2,⟨_,rfl⟩⟩
    · have hcb:(cx==c)=false:=beq_eq_false_iff_ne.2 hcc
      (have HJ2:Hid (j=A):=by show _=_;have:=HJ.out;rw[HST,if_neg hcc]at this;omega);clear HST hcc hx;(go_upto_region 2 with fail);go_quiet (fail);go_wp2;go_ret;exact⟨by rw[HJ2.out];rfl,_,rfl⟩
  · have hltz:¬(j:Int)<(n:Int):=by omega
    have HJ2:Hid (j=A):=by
     show _=_;have:=HJ.out;rw[List.drop_eq_nil_of_le (by have:=HN.out;omega)]at this;simpa[cut,lead]using this
    clear hx;(go_upto_region 2 with fail);go_quiet (fail);go_wp2;go_ret;exact⟨by rw[HJ2.out];rfl,_,rfl⟩
end
section
open Go.RowKit Nums Fm
structure RTy(T TS:TypeId)(k bytes:Nat):Prop where
 und:Tryz.prog.underlying TS=some (.slice T)
 inf:∃z,(Tryz.prog.info? T).map (fun i=>(i.zero,i.size,i.bytes))=some (some z,k,bytes)∧z.cells.size=k
 pos:0<k
 small:bytes≤64
def zG7(k:Nat)(x:List Value):Prop:=x.length=k∧∀u∈x,u.oneCell'=true
def GOwn(T:TypeId)(k B:Nat)(w:World)(v:Value)(xss:List (List Value)):Prop:=(∀x∈xss,zG7 k x)∧w.ownsRow B T k v xss.length xss.flatten
variable {T TS:TypeId} {k bytes B:Nat} {w w':World} {v:Value} {xss:List (List Value)}
theorem GOwn.nil(T:TypeId)(k B:Nat)(w:World):GOwn T k B w (.slice none 0 0) []:=⟨by simp,World.ownsRow_nil _ _ _ _⟩
theorem GOwn.shape(h:GOwn T k B w v xss):∃ad cap,v = .slice ad xss.length cap∧xss.length≤cap:=by
 obtain⟨_,hl,⟨e,h0⟩|⟨g,cap,cur,rfl,_,_,h3,_⟩⟩:=h
 · exact⟨none,0,by rw[e,h0],by omega⟩
 · exact⟨_,cap,rfl,h3⟩
theorem GOwn.mono{B':Nat}(h:GOwn T k B w v xss)(hB:B'≤B):GOwn T k B' w v xss:=by
 obtain⟨h0,hl,hn|⟨g,cap,cur,rfl,h1,h2⟩⟩:=h
 · exact⟨h0,hl,.inl hn⟩
 · exact⟨h0,hl,.inr ⟨g,cap,cur,rfl,by omega,h2⟩⟩
theorem GOwn.block(h:GOwn T k B w v xss){g:Nat}(hg:v.ownBlock=some g):B≤g∧∃cur,w.heap[g]?=some (.cells cur T (0,0)):=by
 obtain⟨_,hl,⟨e,_⟩|⟨g',cap,cur,rfl,h1,h2,_⟩⟩:=h
 · rw[e]at hg;cases hg
 · simp only[Value.ownBlock,Option.some.injEq]at hg
   subst hg;exact⟨h1,cur,h2⟩
theorem GOwn.same(h:GOwn T k B w v xss)(e:∀g,v.ownBlock=some g→w'.heap[g]?=w.heap[g]?):GOwn T k B w' v xss:=by
 obtain⟨h0,hl,hn|⟨g,cap,cur,rfl,h1,hg,h2⟩⟩:=h
 · exact⟨h0,hl,.inl hn⟩
 · exact⟨h0,hl,.inr ⟨g,cap,cur,rfl,h1,(e g rfl).trans hg,h2⟩⟩
theorem GOwn.lt(h:GOwn T k B w v xss){g:Nat}(hg:v.ownBlock=some g):g<w.heap.size:=by
 obtain⟨_,cur,h1⟩:=h.block hg;exact(Array.getElem?_eq_some_iff.1 h1).1
theorem GOwn.below(h:GOwn T k B w v xss)(hb:Below w.heap.size w w'):GOwn T k B w' v xss:=
 h.same fun g hg=>hb.block g (h.lt hg)
theorem zHi:∀(xss:List (List Value)),(∀x∈xss,x.length=k)→∀(i j:Nat) (x:List Value) (u:Value),xss[i]?=some x→x[j]?=some u→xss.flatten[i*k+j]?=some u
 |y::r,hk,0,j,x,u,hi,hj=>by
  simp only[List.getElem?_cons_zero,Option.some.injEq]at hi;subst hi;rw[List.flatten_cons,Nat.zero_mul,Nat.zero_add,List.getElem?_append_left (List.getElem?_eq_some_iff.1 hj).1];exact hj
 |y::r,hk,i+1,j,x,u,hi,hj=>by
  have hy:=hk y (by simp);rw[List.flatten_cons,List.getElem?_append_right (by rw[hy,Nat.add_mul];omega),hy,show(i+1)*k+j-k=i*k+j by rw[Nat.add_mul];omega];exact zHi r (fun x hx=>hk x (by simp[hx])) i j x u (by simpa using hi) hj
theorem GOwn.cell(h:GOwn T k B w v xss)(h0:0<xss.length):∃g cap,v = .slice (some ⟨g,0,none⟩) xss.length cap∧g<w.heap.size∧B≤g∧xss.length≤cap∧∀i j x u,xss[i]?=some x→x[j]?=some u→w.cell? ⟨g,i*k+j,none⟩=some u:=by
 have hlen:∀x∈xss,x.length=k:=fun x hx=>(h.1 x hx).1
 obtain⟨_,hl,⟨_,e⟩|⟨g,cap,cur,rfl,h1,hh,h3,h4,h5,h6⟩⟩:=h
 · omega
 · refine⟨g,cap,rfl,(Array.getElem?_eq_some_iff.1 hh).1,h1,h3,fun i j x u hi hj=>?_⟩
   have e:=zHi xss hlen i j x u hi hj;rw[←h6,List.getElem?_take]at e
   split at e
   · simp only[World.cell?,hh]
     simpa using e
   · cases e
theorem zBg(R:RTy T TS k bytes)(hown:GOwn T k B w v xss)(hB:B≤w.heap.size){x:List Value}(hx:zG7 k x){nb:Nat}(hc:∀j u,x[j]?=some u→w.cell? ⟨nb,j,none⟩=some u)(h63:xss.length<1099511627776)(ty:TypeId)(c:Nat):
 ∃v' w',(Builtin.append_ #[TS,TS] ty #[v,.slice (some ⟨nb,0,none⟩) 1 c]).run Tryz.prog w = .ok v' w'∧GOwn T k B w' v' (xss++[x])∧w.grownBy w' v.ownBlock∧(v'.ownBlock=v.ownBlock∨∃g,v'.ownBlock=some g∧w.heap.size≤g):=by
 obtain⟨z,hz,hzs⟩:=R.inf;obtain⟨i0,hi,hz0,hz1,hz2⟩:=info_parts hz;obtain⟨v',w',h1,h2,h3,_⟩:=run_append_own (P:=Tryz.prog) w B TS ty T i0 z k bytes R.und hi hz0 hz1 hz2 hzs R.pos v xss.length xss.flatten hown.2 ⟨nb,0,none⟩ 1 c x (by rw[hx.1];omega) (fun j u hj=>by
  have hadd:∀j,(⟨nb,0,none⟩:Addr).add j=⟨nb,0+j,none⟩:=fun j=>by unfold Addr.add;split<;>simp_all
  rw[hadd,Nat.zero_add]
  exact hc j u hj) hx.2 (by simp only [maxLen]; omega) (by have := R.small; calc (xss.length + 1) * bytes ≤ (xss.length + 1) * 64 := Nat.mul_le_mul_left _ this
                                                                       _≤140737488355328:=by omega) hB
 have hown':GOwn T k B w' v' (xss++[x]):=by
  refine⟨fun y hy=>?_,?_⟩
  · rcases List.mem_append.1 hy with hy|hy
    · exact hown.1 y hy
    · rw[List.mem_singleton.1 hy];exact hx
  · rw[List.length_append,List.flatten_append]
    simpa using h2
 refine⟨v',w',h1,hown',h3,?_⟩;have hadd:∀j,(⟨nb,0,none⟩:Addr).add j=⟨nb,j,none⟩:=fun j=>by unfold Addr.add;split<;>simp_all
 have hnews:∀j u,x[j]?=some u→w.cell? ((⟨nb,0,none⟩:Addr).add j)=some u:=fun j u hj=>by rw[hadd];exact hc j u hj
 have hl:x.length=1*i0.size:=by rw[hx.1,hz1];omega
 have hb64:(xss.length+1)*i0.bytes≤140737488355328:=by
  rw[hz2];have:=R.small
  calc (xss.length+1)*bytes≤(xss.length+1)*64:=Nat.mul_le_mul_left _ this
   _≤140737488355328:=by omega
 obtain⟨_,hlf,⟨ev,h0⟩|⟨g,cap,cur,ev,hb',hh,hnc,hcm,hcs,htake⟩⟩:=id hown
 · subst ev
   rw[h0]at hb64;have hr:=run_append_nil (P:=Tryz.prog) w TS ty T i0 z R.und hi hz0 ⟨nb,0,none⟩ 1 c x hl hnews (by omega) (by omega) (by omega);rw[hr]at h1;(injection h1 with h1 _);exact .inr ⟨w.heap.size,by rw[←h1];rfl,Nat.le_refl _⟩
 · subst ev
   (have hcs':cur.size=cap*i0.size:=by rw[hz1];exact hcs);(have hlf':xss.flatten.length=xss.length*i0.size:=by rw[hz1];exact hlf);by_cases hroom:xss.length+1≤cap
   · have hfit:xss.length*i0.size+x.length≤cur.size:=by rw[hl,hcs',←Nat.add_mul];exact Nat.mul_le_mul_right _ hroom
     have hr:=run_append_room (P:=Tryz.prog) w TS ty T i0 R.und hi g xss.length cap cur hh ⟨nb,0,none⟩ 1 c x hl hnews hx.2 hroom hfit;rw[hr]at h1;(injection h1 with h1 _);exact .inl (by rw[←h1];rfl)
   · have holds:∀j u,xss.flatten[j]?=some u→w.cell? ((⟨g,0,none⟩:Addr).add j)=some u:=hown.2.cells (g:=g) rfl
     have hr:=run_append_grow (P:=Tryz.prog) w TS ty T i0 z R.und hi hz0 ⟨g,0,none⟩ xss.length cap xss.flatten hlf' holds ⟨nb,0,none⟩ 1 c x hl hnews (by omega) (by omega) (growslice_fits (by omega) hb64);rw[hr]at h1;(injection h1 with h1 _);exact .inr ⟨w.heap.size,by rw[←h1];rfl,Nat.le_refl _⟩
theorem gBelow(h:GOwn T k B w v xss)(hg:w.grownBy w' v.ownBlock)(hB:B≤w.heap.size):Below B w w':=
 (Below.refl B w).grown hg hB (fun k hk=>(World.ownsRow.lt h.2 k hk).1)
theorem zEz{W:World}{ops:Array Oper}{rest:List Oper}{o:Oper}{a:Act}{Q:Exit→Act→World→Prop}(R:RTy T TS k bytes)(hgd:o.guard=none)(s y:Operand)(x:List Value)(T2:TypeId)
 (ho:o.op = .call { callee := .builtin .append,args:=#[s,y],argTypes:=#[TS,TS] }) (B nb c:Nat) (v:Value) (xss:List (List Value)) (hs:a.eval s=v) (hown:GOwn T k B W v xss) (hy:a.eval y = .slice (some ⟨nb,0,none⟩) 1 c) (hnb:nb=W.heap.size) (hx:zG7 k x) (h63:xss.length<1099511627776) (hB:B≤W.heap.size)
 (h:∀v' w',GOwn T k B w' v' (xss++[x])→Below B W w'→(W.alloc (.cells x.toArray T2)).grownBy w' v.ownBlock→wpList Tryz.prog ops Q rest (a.put o.dst v') w'):wpList Tryz.prog ops Q (o::rest) a (W.alloc (.cells x.toArray T2)):=by
 subst hnb;have hbA:Below W.heap.size W (W.alloc (.cells x.toArray T2)):=(Below.refl _ W).alloc (Nat.le_refl _) _;obtain⟨v',w',h1,h2,h3,_⟩:=zBg R (hown.below hbA) (by simp;omega) hx (nb:=W.heap.size) (fun j u hj=>by simpa using hj) h63 o.type c;refine wpList_plain hgd fun _ hK=>?_
 unfold Oper.wp execOp;simp only[ho,resolve,invoke,builtin,Sem.run_bind,Sem.run_pure,Result.andThen_ok,List.map_toArray,List.map_cons,List.map_nil,hs,hy,h1];exact hK _ _ (h v' w' h2 (((Below.refl B W).alloc hB _).trans (gBelow (hown.below hbA) h3 (by simp;omega))) h3)
theorem rtyE:RTy 167 108 2 32:=⟨by kernel_rfl,⟨.agg #[.slice none 0 0,.int .i64 0],by kernel_rfl,rfl⟩,by decide,by decide⟩
theorem rtyA:RTy 126 89 3 24:=⟨by kernel_rfl,⟨.agg #[.int .i32 0,.int .i64 0,.int .i64 0],by kernel_rfl,rfl⟩,by decide,by decide⟩
theorem rtyS:RTy 91 37 3 40:=⟨by kernel_rfl,⟨.agg #[.bool false,.int .i64 0,.slice none 0 0],by kernel_rfl,rfl⟩,by decide,by decide⟩
end
section
open Go.RowKit Nums Fm Go.Maps Go.MapKept
theorem zQ3:laidOutB Tryz.prog=true:=by kernel_rfl
theorem zV6:Keyed Tryz.prog 214:=Keyed.of_law (deep_law_laid zQ3 (m:=3) (by omega) (of_decide_eq_true (by kernel_rfl)) (by kernel_rfl) (by kernel_rfl))
theorem zV5:Keyed Tryz.prog 248:=Keyed.of_law (deep_law_laid zQ3 (m:=4) (by omega) (of_decide_eq_true (by kernel_rfl)) (by kernel_rfl) (by kernel_rfl))
abbrev SK:=Bool×Int×Nat
abbrev LK:=Nat×Arc
def valK(x:SK):Value := .agg #[.bool x.1,.int .i64 x.2.1,.int .i64 x.2.2]
def valL(x:LK):Value := .agg #[.int .i64 x.1,.int .i32 x.2.label,.int .i64 x.2.out,.int .i64 x.2.to]
def zB0(n:Int):Prop := -9223372036854775808≤n∧n≤9223372036854775807
def zIu(n:Int):Prop := -2147483648≤n∧n≤2147483647
theorem wf64{n:Int}(h:zB0 n):(Lit.int .i64 n).wf=true:=by
 obtain⟨h1,h2⟩:=h;simp[Lit.wf,IntKind.min,IntKind.max,IntKind.bits,IntKind.signed];omega
theorem wf32{n:Int}(h:zIu n):(Lit.int .i32 n).wf=true:=by
 obtain⟨h1,h2⟩:=h;simp[Lit.wf,IntKind.min,IntKind.max,IntKind.bits,IntKind.signed];omega
theorem typesF:Tryz.prog.types.size+1=4+(Tryz.prog.types.size-3):=by
 have:3≤Tryz.prog.types.size:=of_decide_eq_true (by kernel_rfl);omega
theorem keyTypeK:Tryz.prog.keyType 214=true:=by kernel_rfl
theorem keyTypeL:Tryz.prog.keyType 248=true:=by kernel_rfl
theorem cellsK:Tryz.prog.cellsOf 214=3:=by kernel_rfl
theorem cellsL:Tryz.prog.cellsOf 248=4:=by kernel_rfl
theorem cellsArc:Tryz.prog.cellsOf 126=3:=by kernel_rfl
theorem zLp:Tryz.prog.cellsOf 3=1:=by kernel_rfl
theorem zXu:Tryz.prog.cellsOf 4=1:=by kernel_rfl
theorem zXp:Tryz.prog.cellsOf 21=1:=by kernel_rfl
theorem zFq(d:Nat){n:Int}(h:(Lit.int .i64 n).wf=true):Tryz.prog.keyLits (d+1) 3 [.int .i64 n]=some [.int .i64 n]:=by
 unfold Program.keyLits;rw[Tryz.underlying3];exact if_pos ⟨rfl,h⟩
theorem zVt(d:Nat){n:Int}(h:(Lit.int .i32 n).wf=true):Tryz.prog.keyLits (d+1) 21 [.int .i32 n]=some [.int .i32 n]:=by
 unfold Program.keyLits;rw[Tryz.underlying21];exact if_pos ⟨rfl,h⟩
theorem zVu(d:Nat)(b:Bool):Tryz.prog.keyLits (d+1) 4 [.bool b]=some [.bool b]:=by
 unfold Program.keyLits;rw[Tryz.underlying4]
theorem lits_A(d:Nat){a b c:Int}(h1:(Lit.int .i32 a).wf=true)(h2:(Lit.int .i64 b).wf=true)(h3:(Lit.int .i64 c).wf=true):Tryz.prog.keyLits (d+2) 126 [.int .i32 a,.int .i64 b,.int .i64 c]=some [.int .i32 a,.int .i64 b,.int .i64 c]:=by
 unfold Program.keyLits;rw[Tryz.underlying126];refine(if_pos ⟨cellsArc.symm,by simp⟩).trans ?_;simp only[List.mapM_cons,List.mapM_nil,zXp,zLp,List.drop_zero,List.drop_succ_cons,List.take_succ_cons,List.take_zero,zVt d h1,zFq d h2,zFq d h3];rfl
theorem key_K(x:SK)(h1:zB0 x.2.1)(h2:zB0 x.2.2):∃l,keyOf Tryz.prog 214 (valK x)=some l:=by
 have e1:=wf64 h1;have e2:=wf64 h2;obtain⟨d,hd⟩:∃d,Tryz.prog.types.size+1=d+4:=⟨Tryz.prog.types.size-3,by have:=typesF;omega⟩;have hl:Tryz.prog.keyLits (d+4) 214 [.bool x.1,.int .i64 x.2.1,.int .i64 x.2.2]=some [.bool x.1,.int .i64 x.2.1,.int .i64 x.2.2]:=by
  unfold Program.keyLits;rw[Tryz.underlying214];refine(if_pos ⟨cellsK.symm,by simp⟩).trans ?_;simp only[List.mapM_cons,List.mapM_nil,zXu,zLp,List.drop_zero,List.drop_succ_cons,List.take_succ_cons,List.take_zero,zVu (d+2),zFq (d+2) e1,zFq (d+2) e2];rfl
 have hf:(valK x).formed Tryz.prog 214=true:=by
  unfold valK Value.formed;simp only[Tryz.underlying214,cellsK];rfl
 unfold keyOf;rw[Tryz.underlying214];simp only[keyTypeK,hf,Bool.and_self,if_true];rw[hd,show(valK x).cells.toList=[.bool x.1,.int .i64 x.2.1,.int .i64 x.2.2]from rfl,hl];exact⟨_,rfl⟩
theorem key_L(x:LK)(h0:zB0 x.1)(h1:zIu x.2.label)(h2:zB0 x.2.out)(h3:zB0 x.2.to):∃l,keyOf Tryz.prog 248 (valL x)=some l:=by
 have e0:=wf64 h0;have e1:=wf32 h1;have e2:=wf64 h2;have e3:=wf64 h3;obtain⟨d,hd⟩:∃d,Tryz.prog.types.size+1=d+4:=⟨Tryz.prog.types.size-3,by have:=typesF;omega⟩;have hl:Tryz.prog.keyLits (d+4) 248 [.int .i64 x.1,.int .i32 x.2.label,.int .i64 x.2.out,.int .i64 x.2.to]=some [.int .i64 x.1,.int .i32 x.2.label,.int .i64 x.2.out,.int .i64 x.2.to]:=by
  unfold Program.keyLits;rw[Tryz.underlying248];refine(if_pos ⟨cellsL.symm,by simp⟩).trans ?_;simp only[List.mapM_cons,List.mapM_nil,cellsArc,zLp,List.drop_zero,List.drop_succ_cons,List.take_succ_cons,List.take_zero,zFq (d+2) e0,lits_A (d+1) e1 e2 e3];rfl
 have hf:(valL x).formed Tryz.prog 248=true:=by
  unfold valL Value.formed;simp only[Tryz.underlying248,cellsL];rfl
 unfold keyOf;rw[Tryz.underlying248];simp only[keyTypeL,hf,Bool.and_self,if_true];rw[hd,show(valL x).cells.toList=[.int .i64 x.1,.int .i32 x.2.label,.int .i64 x.2.out,.int .i64 x.2.to]from rfl,hl];exact⟨_,rfl⟩
def KMapAt{κ:Type}(kt:TypeId)(K:κ→Value)(w:World)(b:Nat)(m:List (κ×Nat)):Prop:=
 ∃es clock,w.heap[b]?=some (.map es clock)∧es.toList.map (fun e=>(e.key,e.val))=m.map (fun p=>(K p.1,Value.int .i64 p.2))∧∀p∈m,∃l,keyOf Tryz.prog kt (K p.1)=some l
section
variable {κ:Type} {kt t et:TypeId} {K:κ→Value} {w w':World} {b:Nat} {m:List (κ×Nat)}
theorem KMapAt.same(h:KMapAt kt K w b m)(e:w'.heap[b]?=w.heap[b]?):KMapAt kt K w' b m:=by
 obtain⟨es,clock,hb,r⟩:=h;exact⟨es,clock,e.trans hb,r⟩
theorem KMapAt.lt(h:KMapAt kt K w b m):b<w.heap.size:=by
 obtain⟨es,clock,hb,_⟩:=h;exact(Array.getElem?_eq_some_iff.1 hb).1
theorem KMapAt.obj(h:KMapAt kt K w b m):∃es clock,w.heap[b]?=some (.map es clock):=by
 obtain⟨es,clock,hb,_⟩:=h;exact⟨es,clock,hb⟩
theorem KMapAt.entry{es:Array MapEntry}(h:es.toList.map (fun e=>(e.key,e.val))=m.map (fun p=>(K p.1,Value.int .i64 p.2))){j:Nat}{e:MapEntry}(he:es.toList[j]?=some e):∃p,m[j]?=some p∧e.key=K p.1∧e.val = .int .i64 p.2:=by
 have h2:=congrArg (·[j]?) h;simp only[List.getElem?_map,he,Option.map_some]at h2;cases hm:m[j]? with
 |none=>rw[hm]at h2;simp at h2
 |some p=>
  rw[hm]at h2;simp only[Option.map_some,Option.some.injEq,Prod.mk.injEq]at h2;exact⟨p,rfl,h2.1,h2.2⟩
theorem KMapAt.keyed{es:Array MapEntry}(h:es.toList.map (fun e=>(e.key,e.val))=m.map (fun p=>(K p.1,Value.int .i64 p.2)))(hk:∀p∈m,∃l,keyOf Tryz.prog kt (K p.1)=some l):∀e∈es.toList,∃l,keyOf Tryz.prog kt e.key=some l:=by
 intro e he;obtain⟨j,hj⟩:=List.mem_iff_getElem?.1 he;obtain⟨p,hp,h1,_⟩:=KMapAt.entry h hj;rw[h1];exact hk p (List.mem_of_getElem? hp)
theorem KMapAt.look(h:KMapAt kt K w b m)(hK:Keyed Tryz.prog kt)(ht:Tryz.prog.underlying t=some (.map kt 3)){x:κ}{l:Lit}(hx:keyOf Tryz.prog kt (K x)=some l)(hinj:∀y,K y=K x→y=x):
 ((∀n,(x,n)∉m)∧(Instr.lookup t (.map (some b)) (K x) true).run Tryz.prog w = .ok (.tuple #[.int .i64 0,.bool false]) w) ∨
 ∃n,(x,n)∈m∧(Instr.lookup t (.map (some b)) (K x) true).run Tryz.prog w = .ok (.tuple #[.int .i64 n,.bool true]) w:=by
 obtain⟨es,clock,hb,hm,hk⟩:=h;have hz:(zeroValue 3).run Tryz.prog w = .ok (.int .i64 0) w:=by kernel_rfl
 rcases hK.find w hx es.toList (KMapAt.keyed hm hk)with⟨h1,h2⟩|⟨j,e,h1,h2,h3⟩
 · refine .inl ⟨fun n hn=>?_,?_⟩
   · obtain⟨j,hj⟩:=List.mem_iff_getElem?.1 hn
     have h4:=congrArg (·[j]?) hm;simp only[List.getElem?_map,hj,Option.map_some]at h4;cases he:es.toList[j]? with
     |none=>rw[he]at h4;simp at h4
     |some e=>
      rw[he]at h4;simp only[Option.map_some,Option.some.injEq,Prod.mk.injEq]at h4;exact h2 e (List.mem_of_getElem? he) h4.1
   · simp[Instr.lookup,run_underlying ht,MapKept.run_getObj_map hb,hK.check w _ hx,h1,hz,Result.andThen]
 · obtain⟨p,hp,h4,h5⟩:=KMapAt.entry hm h2
   have hpx:p.1=x:=hinj _ (h4.symm.trans h3);refine .inr ⟨p.2,?_,?_⟩
   · rw[←hpx];exact List.mem_of_getElem? hp
   · simp[Instr.lookup,run_underlying ht,MapKept.run_getObj_map hb,hK.check w _ hx,h1,h5,Result.andThen]
theorem KMapAt.look_new(h:KMapAt kt K w b m)(hK:Keyed Tryz.prog kt)(ht:Tryz.prog.underlying t=some (.map kt 3)){x:κ}{l:Lit}(hx:keyOf Tryz.prog kt (K x)=some l)(hinj:∀y,K y=K x→y=x)(hn:∀n,(x,n)∉m):
 (Instr.lookup t (.map (some b)) (K x) true).run Tryz.prog w = .ok (.tuple #[.int .i64 0,.bool false]) w:=by
 rcases h.look hK ht hx hinj with⟨_,h1⟩|⟨n,h1,_⟩
 · exact h1
 · exact absurd h1 (hn n)
theorem KMapAt.look_old(h:KMapAt kt K w b m)(hK:Keyed Tryz.prog kt)(ht:Tryz.prog.underlying t=some (.map kt 3)){x:κ}{l:Lit}(hx:keyOf Tryz.prog kt (K x)=some l)(hinj:∀y,K y=K x→y=x){n:Nat}(hn:(x,n)∈m)(hu:∀n',(x,n')∈m→n'=n):
 (Instr.lookup t (.map (some b)) (K x) true).run Tryz.prog w = .ok (.tuple #[.int .i64 n,.bool true]) w:=by
 rcases h.look hK ht hx hinj with⟨h1,_⟩|⟨n',h1,h2⟩
 · exact absurd hn (h1 n)
 · rw[hu n' h1]at h2;exact h2
theorem KMapAt.store(h:KMapAt kt K w b m)(hK:Keyed Tryz.prog kt)(ht:Tryz.prog.underlying t=some (.map kt 3)){x:κ}{l:Lit}(hx:keyOf Tryz.prog kt (K x)=some l)(hinj:∀y,K y=K x→y=x)(hnew:∀n,(x,n)∉m)(n:Nat):
 ∃w',(Instr.mapUpdate t (.map (some b)) (K x) (.int .i64 n)).run Tryz.prog w = .ok () w'∧KMapAt kt K w' b (m++[(x,n)])∧w'.os=w.os∧w'.tape=w.tape∧w'.output=w.output∧w'.heap.size=w.heap.size∧∀k,k≠b→w'.heap[k]?=w.heap[k]?:=by
 obtain⟨es,clock,hb,hm,hk⟩:=h;rcases hK.find w hx es.toList (KMapAt.keyed hm hk)with⟨h1,h2⟩|⟨j,e,h1,h2,h3⟩
 · refine⟨{ w with heap:=w.heap.setIfInBounds b (.map (es.push ⟨K x,.int .i64 n,clock⟩) (clock+1)) },?_,⟨es.push ⟨K x,.int .i64 n,clock⟩,clock+1,(heap_set hb).1,by simp[hm],fun p hp=>?_⟩,rfl,rfl,rfl,by simp,fun i hi=>(heap_set hb).2 i hi⟩
   · simp[Instr.mapUpdate,run_underlying ht,MapKept.run_getObj_map hb,hK.check w _ hx,h1,MapKept.run_setObj_map _ hb,Result.andThen]
   · rcases List.mem_append.1 hp with hp|hp
     · exact hk p hp
     · rw[List.mem_singleton.1 hp];exact⟨l,hx⟩
 · obtain⟨p,hp,h4,h5⟩:=KMapAt.entry hm h2
   have hpx:p.1=x:=hinj _ (h4.symm.trans h3);exact absurd (show(x,p.2)∈m by rw[←hpx];exact List.mem_of_getElem? hp) (hnew p.2)
theorem KMapAt.len(h:KMapAt kt K w b m)(ht:Tryz.prog.underlying t=some (.map kt 3))(ty:TypeId):(Builtin.len_ #[t] ty #[.map (some b)]).run Tryz.prog w = .ok (.int .i64 (m.length:Int)) w:=by
 obtain⟨es,clock,hb,hm,_⟩:=h;have hl:es.size=m.length:=by simpa using congrArg List.length hm
 simp[Builtin.len_,run_underlying ht,MapKept.run_getObj_map hb,Result.andThen,goInt,hl]
end
theorem zKf{x y:SK}(h:valK y=valK x):y=x:=by
 obtain⟨a,b,c⟩:=x;obtain⟨a',b',c'⟩:=y;simp[valK]at h;obtain⟨h1,h2,h3⟩:=h;subst h1;subst h2;rw[Int.ofNat_inj.1 h3]
theorem zKe{x y:LK}(h:valL y=valL x):y=x:=by
 obtain⟨a,b,c,d⟩:=x;obtain⟨a',b',c',d'⟩:=y;simp[valL]at h;obtain⟨h1,h2,h3,h4⟩:=h;subst h2;subst h3;rw[Int.ofNat_inj.1 h1,Int.ofNat_inj.1 h4]
end
