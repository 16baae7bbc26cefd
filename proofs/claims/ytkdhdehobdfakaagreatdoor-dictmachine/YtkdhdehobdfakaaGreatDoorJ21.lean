import Derived.Test.YtkdhdehobdfakaaGreatDoorJ19
import Derived.Test.YtkdhdehobdfakaaGreatDoorJ18
set_option maxRecDepth 100000
set_option maxHeartbeats 8000000
namespace Go.Proofs.YtkdhdehobdfakaaGreatDoor
section
open Go.RowKit Nums Fm
theorem zRf:∀x:List Int,lexL x x=false
 |[]=>rfl
 |a::x=>by rw[zEd,zRf x]
theorem wt_mem:∀{S:List En} {xs:List Int} {n:Int},Rise S→(xs,n)∈S→wt xs S=some n
 |[],_,_,_,h=>by cases h
 |e::r,xs,n,hr,h=>by
  obtain⟨h1,h2⟩:=List.pairwise_cons.1 hr;rw[zGg];rcases List.mem_cons.1 h with h|h
  · rw[←h,if_pos rfl]
  · have:=h1 _ h
    (have hne:e.1≠xs:=fun e2=>by rw[e2]at this;simp only[zRf]at this;cases this);rw[if_neg hne,wt_mem h2 h]
def zMa:Value→Prop
 |.slice _ n c=>n≤c
 |_=>False
def RR(E:Nat)(w:World)(v:Value)(S:List En):Prop:=
 ∃ad cap,v = .slice ad S.length cap∧(0<S.length→∃g off,ad=some ⟨g,off,none⟩∧g<w.heap.size∧∀i e,S[i]?=some e→∃u,EntAt E w g (off+i*2) u e∧zMa u)
theorem RR.below{E:Nat}{w w':World}{v:Value}{S:List En}(h:RR E w v S)(hE:E≤w.heap.size)(hb:Below w.heap.size w w'):RR E w' v S:=by
 obtain⟨ad,cap,rfl,hc⟩:=h;refine⟨ad,cap,rfl,fun h0=>?_⟩;obtain⟨g,off,rfl,hg,hx⟩:=hc h0;refine⟨g,off,rfl,Nat.lt_of_lt_of_le hg hb.size,fun i e hi=>?_⟩;obtain⟨u,⟨c0,c1,hr⟩,hk⟩:=hx i e hi;exact⟨u,⟨(hb.cell (p:=⟨g,off+i*2,none⟩) hg).trans c0,(hb.cell (p:=⟨g,off+i*2+1,none⟩) hg).trans c1,hr.below (hb.mono hE)⟩,hk⟩
theorem RR.form{E:Nat}{w:World}{v:Value}{S:List En}(h:RR E w v S):∃ad cap,v = .slice ad S.length cap:=by
 obtain⟨ad,cap,e,_⟩:=h;exact⟨ad,cap,e⟩
theorem RR.at{E:Nat}{w:World}{ad:Option Addr}{n cap:Nat}{S:List En}(h:RR E w (.slice ad n cap) S)(h0:0<n):∃g off,ad=some ⟨g,off,none⟩∧g<w.heap.size∧∀i e,S[i]?=some e→∃u,EntAt E w g (off+i*2) u e∧zMa u:=by
 obtain⟨ad',cap',e,hc⟩:=h;simp only[Value.slice.injEq]at e;obtain⟨rfl,h2,rfl⟩:=e;exact hc (by omega)
structure RMade(E B:Nat)(w:World)(v:Value)(S:List En):Prop where
 ex:∃xss:List (List Value),GOwn 108 2 B w v xss∧xss.length=S.length∧∀(i:Nat) (e:En),S[i]?=some e→∃u,xss[i]?=some [u,.int .i64 e.2]∧RunesAt E w u e.1∧zMa u
theorem RMade.nil(E B:Nat)(w:World):RMade E B w (.slice none 0 0) []:=⟨[],GOwn.nil _ _ _ _,rfl,fun i e hi=>by simp at hi⟩
theorem RMade.row{E B:Nat}{w:World}{v:Value}{S:List En}(h:RMade E B w v S):RR E w v S:=by
 obtain⟨xss,ho,hl,hx⟩:=h;by_cases h0:0<xss.length
 · obtain⟨g,cap,rfl,hg,_,_,hcell⟩:=ho.cell h0
   refine⟨_,cap,by rw[hl],fun _=>⟨g,0,rfl,hg,fun i e hi=>?_⟩⟩;obtain⟨u,hu,hm,hk⟩:=hx i e hi;exact⟨u,⟨by rw[Nat.zero_add];exact hcell i 0 _ u hu rfl,by rw[Nat.zero_add];exact hcell i 1 _ _ hu rfl,hm⟩,hk⟩
 · obtain⟨ad,cap,rfl,_⟩:=ho.shape
   exact⟨ad,cap,by rw[hl],fun h=>absurd h (by omega)⟩
theorem RMade.below{E B:Nat}{w w':World}{v:Value}{S:List En}(h:RMade E B w v S)(hE:E≤w.heap.size)(hb:Below w.heap.size w w'):RMade E B w' v S:=by
 obtain⟨xss,ho,hl,hx⟩:=h;refine⟨xss,ho.below hb,hl,fun i e hi=>?_⟩;obtain⟨u,h1,h2,h3⟩:=hx i e hi;exact⟨u,h1,h2.below (hb.mono hE),h3⟩
theorem rtyR:RTy 108 60 2 32:=⟨by kernel_rfl,⟨.agg #[.slice none 0 0,.int .i64 0],by kernel_rfl,rfl⟩,by decide,by decide⟩
theorem RMade.push{E B:Nat}{w w':World}{v':Value}{S:List En}{e:En}{u:Value}{xss:List (List Value)}(hl:xss.length=S.length)(hx:∀(i:Nat) (e:En),S[i]?=some e→∃u,xss[i]?=some [u,.int .i64 e.2]∧RunesAt E w u e.1∧zMa u)(hb:Below E w w')(ho:GOwn 108 2 B w' v' (xss++[[u,.int .i64 e.2]]))(hu:RunesAt E w u e.1)(hk:zMa u):RMade E B w' v' (S++[e]):=by
 refine⟨_,ho,by simp[hl],fun i x hi=>?_⟩;by_cases hil:i<S.length
 · rw[List.getElem?_append_left hil]at hi
   obtain⟨y,h1,h2,h3⟩:=hx i x hi;exact⟨y,by rw[List.getElem?_append_left (by omega)];exact h1,h2.below hb,h3⟩
 · rw[List.getElem?_append_right (by omega)]at hi
   cases hi0:i-S.length with
   |zero=>
    rw[hi0]at hi;simp only[List.getElem?_cons_zero,Option.some.injEq]at hi;subst hi;exact⟨u,by rw[List.getElem?_append_right (by omega),hl,hi0];rfl,hu.below hb,hk⟩
   |succ j=>rw[hi0]at hi;simp at hi
theorem zD5(E:Nat)(w:World)(v:Value)(l:List En)(h:RR E w v l)(h0:0<l.length)(hl:l.length≤1048576):
 Calls Tryz.prog 20 #[v] w fun e w'=>e = .returned (.int .i64 (least l))∧w'=w:=by
 obtain⟨ad,cap,rfl⟩:=h.form;obtain⟨n,hn⟩:∃n,l.length=n:=⟨_,rfl⟩;have HN:Hid (l.length=n):=hn;rw[hn]at h hl h0 ⊢;have h0z:(0:Int)<(n:Int):=by omega
 obtain⟨g,off,rfl,hg,hx⟩:=h.at h0;obtain⟨e0,he0⟩:∃e0,l[0]?=some e0:=⟨l[0]'(by have:=HN.out;omega),List.getElem?_eq_getElem _⟩;obtain⟨u0,hu0,_⟩:=hx 0 e0 he0;obtain⟨_,a1,_⟩:=hu0;rw[Nat.zero_mul,Nat.add_zero]at a1;have HL:Hid (least l=zAv e0.2 l):=by
  show _=_;cases l with
  |nil=>simp at he0
  |cons x r=>simp only[List.getElem?_cons_zero,Option.some.injEq]at he0;subst he0;rfl
 have HX:Hid (∀(i:Nat) (e:En),l[i]?=some e→w.cell? ⟨g,off+i*2+1,none⟩=some (.int .i64 e.2)):=fun i e hi=>by obtain⟨u,hu,_⟩:=hx i e hi;exact hu.c1
 clear h hx he0 hn;go_enter Tryz.func20,Tryz.ntmps20;go_wp2
 go_loopg [3,4] n (fun gm s3 s4 wr=>∃(k:Nat),s4 = .int .i64 k∧k≤n∧n-k≤gm∧s3 = .int .i64 (zAv e0.2 (l.take k))∧wr=w)
 case atStart=>exact⟨0,rfl,Nat.zero_le _,by omega,by simp[zAv],rfl⟩
 case round=>
  obtain⟨k,rfl,hk,hgm,rfl,rfl⟩:=hrel;by_cases hlt:k<n
  · have hltz:(k:Int)<(n:Int):=by omega
    obtain⟨x,hx⟩:∃x,l[k]?=some x:=⟨l[k]'(by have:=HN.out;omega),List.getElem?_eq_getElem _⟩;have c1:=HX.out k x hx;have HS:Hid (zAv e0.2 (l.take (k+1))=if x.2<zAv e0.2 (l.take k)then x.2 else zAv e0.2 (l.take k)):=zIc hx _;clear hx;generalize zAv e0.2 (l.take k)=m at *;go_wp2
    all_goals
     go_roundg (n-(k+1));(case measure=>omega);case rel=>exact⟨k+1,by go_num,by omega,Nat.le_refl _,by(first|(rw[HS.out,if_pos (by omega)];done)|(rw[HS.out,if_neg (by omega)];done)|(rw[HS.out];simp only[Int.min_def];split<;>split<;>first|rfl|(congr 1;omega))),rfl⟩
  · have hltz:¬(k:Int)<(n:Int):=by omega
    (have HE:Hid (zAv e0.2 (l.take k)=zAv e0.2 l):=by show _=_;rw[List.take_of_length_le (by have:=HN.out;omega)]);go_wp2;go_ret;exact⟨by rw[HE.out,HL.out];rfl,rfl⟩
structure SE(g o:Nat)(u:Value)(n:Int)(w:World):Prop where
 c0:w.cell? ⟨g,o,none⟩=some u
 c1:w.cell? ⟨g,o+1,none⟩=some (.int .i64 n)
theorem SE.facts{g o:Nat}{u:Value}{n:Int}{w:World}(h:SE g o u n w):w.cell? ⟨g,o,none⟩=some u∧w.cell? ⟨g,o+1,none⟩=some (.int .i64 n):=⟨h.c0,h.c1⟩
theorem SE.below{g o:Nat}{u:Value}{n:Int}{w w':World}{B:Nat}(h:SE g o u n w)(hg:g<B)(hb:Below B w w'):SE g o u n w':=⟨(hb.cell (p:=⟨g,o,none⟩) hg).trans h.c0,(hb.cell (p:=⟨g,o+1,none⟩) hg).trans h.c1⟩
theorem zSq(n:Int){l:List En}{k:Nat}{e:En}(h:l[k]?=some e):zAi n (l.take (k+1))=zAi n (l.take k)++[(e.1,e.2+n)]:=by
 rw[List.take_add_one,h];simp[zAi]
theorem zM0(E:Nat)(w:World)(v:Value)(l:List En)(h:RR E w v l)(h0:0<l.length)(hl:l.length≤1048576)(hE:E≤w.heap.size)(hw:∀e∈l,0≤e.2∧e.2≤1048576):
 Calls Tryz.prog 43 #[v] w fun e w'=>∃v',e = .returned v'∧RMade E w.heap.size w' v' (zAd l)∧Below w.heap.size w w':=by
 obtain⟨ad,cap,rfl⟩:=h.form;obtain⟨n,hn⟩:∃n,l.length=n:=⟨_,rfl⟩;have HN:Hid (l.length=n):=hn;have HLE:=zD5 E w _ l h h0 hl;rw[hn]at h hl h0 HLE ⊢;have hne:l≠[]:=fun e=>by rw[e]at hn;simp at hn;omega
 obtain⟨base,hbase⟩:∃base,least l=base:=⟨_,rfl⟩;rw[hbase]at HLE;have hbb:0≤base∧base≤1048576:=by rw[←hbase];exact zLi hne hw
 have HBASE:Hid (least l=base):=hbase;have HLEH:Hid (Calls Tryz.prog 20 #[.slice ad n cap] w fun e w'=>e = .returned (.int .i64 base)∧w'=w):=HLE;obtain⟨g,off,rfl,hg,hx⟩:=h.at h0;have HX:Hid (∀(i:Nat) (e:En),l[i]?=some e→∃u,EntAt E w g (off+i*2) u e∧zMa u):=hx;have HW:Hid (∀e∈l,0≤e.2∧e.2≤1048576):=hw;clear h hx hn HLE hw hne hbase;go_enter Tryz.func43,Tryz.ntmps43;go_upto_region 3 with(go_at_call 20;refine HLEH.out.mono ?_;rintro e w1 ⟨rfl,hw1⟩;rw[hw1];clear hw1)
 go_wp2
 go_loopg [3,5] n (fun gm s3 s5 wr=>∃(k:Nat),s5 = .int .i64 k∧k≤n∧n-k≤gm∧Hid (RMade E w.heap.size wr s3 (zAi (-base) (l.take k)))∧Hid (Below w.heap.size w wr))
 case atStart=>exact⟨0,rfl,Nat.zero_le _,by omega,RMade.nil _ _ _,Below.refl _ _⟩
 case round=>
  obtain⟨k,rfl,hk,hgm,HM,HB⟩:=hrel;by_cases hlt:k<n
  · have hltz:(k:Int)<(n:Int):=by omega
    obtain⟨x,hxk⟩:∃x,l[k]?=some x:=⟨l[k]'(by have:=HN.out;omega),List.getElem?_eq_getElem _⟩;obtain⟨u,⟨c0,c1,hr⟩,hck⟩:=HX.out k x hxk;obtain⟨ra,rc,hu,_⟩:=id hr;obtain⟨rn,hrn⟩:∃rn,x.1.length=rn:=⟨_,rfl⟩;rw[hrn]at hu;subst hu;obtain⟨q,hq⟩:∃q,x.2=q:=⟨_,rfl⟩;have hqb:=HW.out x (List.mem_of_getElem? hxk);rw[hq]at c1 hqb;have hS:SE g (off+k*2) (.slice ra rn rc) q w:=⟨c0,c1⟩;have hS0:SE g (off+k*2) (.slice ra rn rc) q wr.drew:=(hS.below hg HB.out).below (B:=wr.heap.size) (Nat.lt_of_lt_of_le hg HB.out.size) (Below.refl _ wr).drew;(have hwr:IntKind.i64.wrap (q-base)=q-base:=by rw[IntKind.wrap_i64];omega);obtain⟨xss,ho,hxl,hxe⟩:=HM.out.ex;obtain⟨W4,hW4⟩:∃W4,W4=wr.drew.alloc (.cells #[.slice ra rn rc,.int .i64 (q-base)] 108):=⟨_,rfl⟩;(have hb4:Below wr.heap.size wr W4:=by rw[hW4];exact((Below.refl _ wr).drew).alloc (by simp) _);(have hn4:W4.heap[wr.heap.size]?=some (.cells #[.slice ra rn rc,.int .i64 (q-base)] 108):=by rw[hW4];exact zAb _ _);have hBr:w.heap.size≤wr.heap.size:=HB.out.size;obtain⟨v5,W5,hap,ho5,hgr,_⟩:=zAx rtyR (ho.below hb4) (Nat.le_trans hBr hb4.size) (x:=[.slice ra rn rc,.int .i64 (q-base)]) ⟨rfl,by simp[Value.oneCell']⟩ (nb:=wr.heap.size) (fun j u hj=>by simp only[World.cell?,hn4];simpa using hj) (by rw[hxl];simp only[zAi,List.length_map,List.length_take];omega) 60 1;have hB45:Below w.heap.size W4 W5:=zIf (ho.below hb4) hgr (Nat.le_trans hBr hb4.size);have hb5:Below w.heap.size w W5:=(HB.out.trans (hb4.mono hBr)).trans hB45;have hM5:RMade E w.heap.size W5 v5 (zAi (-base) (l.take (k+1))):=by
     rw[zSq (-base) hxk];refine RMade.push (w:=wr) (u := .slice ra rn rc) (xss:=xss) hxl hxe ((hb4.mono (Nat.le_trans hE hBr)).trans (hB45.mono hE)) ?_ (hr.below (HB.out.mono hE)) hck;simp only[hq];exact ho5
    obtain⟨sd,sc,hsv,_⟩:=ho.shape;obtain⟨vd,vc,hvv,_⟩:=ho5.shape;obtain⟨n3,hn3⟩:∃n3,xss.length=n3:=⟨_,rfl⟩;obtain⟨n5,hn5⟩:∃n5,(xss++[[Value.slice ra rn rc,.int .i64 (q-base)]]).length=n5:=⟨_,rfl⟩;rw[hn3]at hsv;rw[hn5]at hvv;subst hsv;subst hvv;have hS4:SE g (off+k*2) (.slice ra rn rc) q W4:=(hS.below hg HB.out).below (Nat.lt_of_lt_of_le hg hBr) hb4;have hS5:SE g (off+k*2) (.slice ra rn rc) q W5:=hS.below hg hb5;have HM5:Hid (RMade E w.heap.size W5 (.slice vd n5 vc) (zAi (-base) (l.take (k+1)))):=hM5;have HB5:Hid (Below w.heap.size w W5):=hb5;have HAP:Hid ((Builtin.append_ #[60,60] 60 #[.slice sd n3 sc,.slice (some ⟨wr.heap.size,0,none⟩) 1 1]).run Tryz.prog W4 = .ok (.slice vd n5 vc) W5):=hap;clear hxk hr hrn hq hS hck ho hxl hxe hb4 hn4 hap ho5 hgr hB45 hb5 hM5 hn3 hn5 c0 c1;(go_upto_region 6 with fail);refine zAh (S:=SE g (off+k*2) (.slice ra rn rc) q) 17 rfl zAr hS0 (fun _=>?_);refine tq4 SE.facts 0 14 1 15 2 16 3 17 ?_;simp only[sZa,sZb,sZc];refine tq4 SE.facts 4 18 5 19 6 20 7 21 ?_;simp only[sZa,sZb,sZc];refine tq4 SE.facts 8 22 9 23 10 24 11 25 ?_;simp only[sZa,sZb,sZc];refine tq2 SE.facts 12 26 13 27 ?_;simp only[sZa,sZb,sZc];refine zAo (i:=14) (v := .slice (some ⟨wr.heap.size,0,none⟩) 1 1) (w':=W4) 28 (by kernel_rfl) rfl rfl (by rfl) (by rw[hW4];go_simp;first|done|exact rfl) hS4 (fun _=>?_);simp only[sZa,sZb,sZc];refine zAo (i:=15) (v := .slice vd n5 vc) (w':=W5) 29 (by kernel_rfl) rfl rfl (by rfl) (zCj HAP.out) hS5 (fun _=>?_);simp only[sZa,sZb,sZc];refine zAo (i:=16) (v := .slice vd n5 vc) (w':=W5) 3 (by kernel_rfl) rfl rfl (by rfl) (by kernel_rfl) hS5 (fun _=>?_);refine wpAnyH_done (by kernel_rfl) ?_ _;simp only[sZa,sZb,sZc];clear hW4 hS4 hS5 hS0;go_wp2;go_roundg (n-(k+1));(case measure=>omega);case rel=>exact⟨k+1,by go_num,by omega,Nat.le_refl _,HM5,HB5⟩
  · have hltz:¬(k:Int)<(n:Int):=by omega
    (have HE:Hid (zAi (-base) (l.take k)=zAd l):=by show _=_;rw[List.take_of_length_le (by have:=HN.out;omega),zAd,HBASE.out]);go_wp2;go_ret;exact⟨_,rfl,by have:=HM.out;rwa [HE.out]at this,HB.out⟩
theorem zT3(c:Int){l:List En}{k:Nat}{e:En}(h:l[k]?=some e):after c (l.take (k+1))=if e.1.head?=some c then after c (l.take k)++[tl e]else after c (l.take k):=by
 rw[List.take_add_one,h];show after c (l.take k++[e])=_;rw[zBk,after]
 split
 · rfl
 · exact List.append_nil _
theorem zGd(c:Int):∀l:List En,(after c l).length≤l.length
 |[]=>Nat.le_refl _
 |e::r=>by
  have:=zGd c r;rw[after]
  split
  · simp only[List.length_cons];omega
  · simp only[List.length_cons];omega
theorem RunesAt.tail{E:Nat}{w:World}{g o n cap:Nat}{xs:List Int}{ad:Option Addr}{c:Nat}(h:RunesAt E w (.slice (some ⟨g,o,none⟩) n cap) xs)(h0:0<xs.length)(had:n=1∨ad=some ⟨g,o+1,none⟩):RunesAt E w (.slice ad (n-1) c) xs.tail:=by
 obtain⟨ad',cap',e,hc⟩:=h;simp only[Value.slice.injEq]at e;obtain⟨e1,rfl,rfl⟩:=e;refine⟨ad,c,by rw[List.length_tail],fun ht=>?_⟩;rw[List.length_tail]at ht;obtain⟨g',off,e2,hg,hx⟩:=hc h0;rw[←e1]at e2;simp only[Option.some.injEq,Addr.mk.injEq,and_true]at e2;obtain⟨rfl,rfl⟩:=e2;refine⟨g,o+1,had.resolve_left (by omega),hg,fun i x hi=>?_⟩;have:=hx (i+1) x (by rw[←List.getElem?_tail];exact hi)
 rwa [show o+(i+1)=o+1+i by omega]at this
theorem zMy(E:Nat)(w:World)(v:Value)(l:List En)(c:Int)(h:RR E w v l)(hl:l.length≤1048576)(hE:E≤w.heap.size):
 Calls Tryz.prog 46 #[v,.int .i32 c] w fun e w'=>∃v',e = .returned v'∧RMade E w.heap.size w' v' (after c l)∧Below w.heap.size w w':=by
 obtain⟨ad,cap,rfl⟩:=h.form;obtain⟨n,hn⟩:∃n,l.length=n:=⟨_,rfl⟩;have HN:Hid (l.length=n):=hn;rw[hn]at h hl ⊢;have HR:Hid (RR E w (.slice ad n cap) l):=h;clear h hn;go_enter Tryz.func46,Tryz.ntmps46;go_wp2
 go_loopg [5,6] n (fun gm s5 s6 wr=>∃(k:Nat),s6 = .int .i64 k∧k≤n∧n-k≤gm∧Hid (RMade E w.heap.size wr s5 (after c (l.take k)))∧Hid (Below w.heap.size w wr))
 case atStart=>exact⟨0,rfl,Nat.zero_le _,by omega,RMade.nil _ _ _,Below.refl _ _⟩
 case round=>
  obtain⟨k,rfl,hk,hgm,HM,HB⟩:=hrel;by_cases hlt:k<n
  · have hltz:(k:Int)<(n:Int):=by omega
    obtain⟨x,hxk⟩:∃x,l[k]?=some x:=⟨l[k]'(by have:=HN.out;omega),List.getElem?_eq_getElem _⟩;obtain⟨g,off,rfl,hg,hx⟩:=HR.out.at (by omega);obtain⟨u,⟨c0,c1,hr⟩,hck⟩:=hx k x hxk;obtain⟨ra,rc,hu,_⟩:=id hr;obtain⟨rn,hrn⟩:∃rn,x.1.length=rn:=⟨_,rfl⟩;rw[hrn]at hu;subst hu;have hck':rn≤rc:=hck;obtain⟨q,hq⟩:∃q,x.2=q:=⟨_,rfl⟩;have HQ:Hid (x.2=q):=hq;rw[hq]at c1;have c0r:wr.cell? ⟨g,off+k*2,none⟩=some (.slice ra rn rc):=(HB.out.cell (p:=⟨g,off+k*2,none⟩) hg).trans c0;have hAF:=zT3 c hxk;by_cases hr0:0<rn
    · have hr0z:(0:Int)<(rn:Int):=by omega
      obtain⟨gr,o,rfl,hz,hd⟩:=hr.get (k:=0) (by omega);clear hz;obtain⟨ch,hch⟩:∃ch,x.1.headD 0=ch:=⟨_,rfl⟩;rw[Nat.add_zero,List.drop_zero,hch]at hd;have hgr:gr<w.heap.size:=zAn hd;have d0:wr.cell? ⟨gr,o,none⟩=some (.int .i32 ch):=(HB.out.cell (p:=⟨gr,o,none⟩) hgr).trans hd;have hhead:x.1.head?=some ch:=by
       cases hx1:x.1 with
       |nil=>rw[hx1]at hrn;simp at hrn;omega
       |cons a t=>rw[hx1]at hch;simp only[List.headD_cons]at hch;rw[hch];rfl
      rw[hhead]at hAF;by_cases hcc:ch=c
      · have hcb:(ch==c)=true:=beq_iff_eq.2 hcc
        rw[if_pos (by rw[hcc])]at hAF;have HAF:Hid (after c (l.take (k+1))=after c (l.take k)++[tl x]):=hAF;have hS:SE g (off+k*2) (.slice (some ⟨gr,o,none⟩) rn rc) q w:=⟨c0,c1⟩;(go_upto_region 6 with fail);clear c0r d0;by_cases hrc1:rc=1
        focus
         subst hrc1;(have hrn1:rn=1:=by omega);subst hrn1;obtain⟨td,htd⟩:∃td:Option Addr,td=some ⟨gr,o,none⟩:=⟨_,rfl⟩;obtain⟨tn,htn⟩:∃tn:Nat,tn=0:=⟨_,rfl⟩;obtain⟨tc,htc⟩:∃tc:Nat,tc=0:=⟨_,rfl⟩;have HTL:Hid (RunesAt E w (.slice td tn tc) x.1.tail∧zMa (.slice td tn tc)):=⟨by rw[htn];exact hr.tail (by omega) (.inl rfl),by rw[htn];exact Nat.zero_le _⟩;clear hAF hx hr hrn hck hck' hhead hch hcc hq c0 c1 hd hxk;have hS0:SE g (off+k*2) (.slice (some ⟨gr,o,none⟩) 1 1) q wr.drew:=(hS.below hg HB.out).below (B:=wr.heap.size) (Nat.lt_of_lt_of_le hg HB.out.size) (Below.refl _ wr).drew;obtain⟨xss,ho,hxl,hxe⟩:=HM.out.ex;obtain⟨W4,hW4⟩:∃W4,W4=wr.drew.alloc (.cells #[.slice td tn tc,.int .i64 q] 108):=⟨_,rfl⟩;(have hb4:Below wr.heap.size wr W4:=by rw[hW4];exact((Below.refl _ wr).drew).alloc (by simp) _);(have hn4:W4.heap[wr.heap.size]?=some (.cells #[.slice td tn tc,.int .i64 q] 108):=by rw[hW4];exact zAb _ _);have hBr:w.heap.size≤wr.heap.size:=HB.out.size;obtain⟨v5,W5,hap,ho5,hgr,_⟩:=zAx rtyR (ho.below hb4) (Nat.le_trans hBr hb4.size) (x:=[.slice td tn tc,.int .i64 q]) ⟨rfl,by simp[Value.oneCell']⟩ (nb:=wr.heap.size) (fun j u hj=>by simp only[World.cell?,hn4];simpa using hj) (by have:=zGd c (l.take k);rw[hxl];rw[List.length_take]at this;omega) 60 1;have hB45:Below w.heap.size W4 W5:=zIf (ho.below hb4) hgr (Nat.le_trans hBr hb4.size);have hb5:Below w.heap.size w W5:=(HB.out.trans (hb4.mono hBr)).trans hB45;have hM5:RMade E w.heap.size W5 v5 (after c (l.take (k+1))):=by
          rw[HAF.out];refine RMade.push (w:=wr) (u := .slice td tn tc) (xss:=xss) hxl hxe ((hb4.mono (Nat.le_trans hE hBr)).trans (hB45.mono hE)) ?_ (HTL.out.1.below (HB.out.mono hE)) HTL.out.2;simp only[tl,HQ.out];exact ho5
         obtain⟨sd,sc,hsv,_⟩:=ho.shape;obtain⟨vd,vc,hvv,_⟩:=ho5.shape;obtain⟨n3,hn3⟩:∃n3,xss.length=n3:=⟨_,rfl⟩;obtain⟨n5,hn5⟩:∃n5,(xss++[[Value.slice td tn tc,.int .i64 q]]).length=n5:=⟨_,rfl⟩;rw[hn3]at hsv;rw[hn5]at hvv;subst hsv;subst hvv;have hS4:SE g (off+k*2) (.slice (some ⟨gr,o,none⟩) 1 1) q W4:=(hS.below hg HB.out).below (Nat.lt_of_lt_of_le hg hBr) hb4;have hS5:SE g (off+k*2) (.slice (some ⟨gr,o,none⟩) 1 1) q W5:=hS.below hg hb5;have HM5:Hid (RMade E w.heap.size W5 (.slice vd n5 vc) (after c (l.take (k+1)))):=hM5;have HB5:Hid (Below w.heap.size w W5):=hb5;have HAP:Hid ((Builtin.append_ #[60,60] 60 #[.slice sd n3 sc,.slice (some ⟨wr.heap.size,0,none⟩) 1 1]).run Tryz.prog W4 = .ok (.slice vd n5 vc) W5):=hap;clear hS ho hxl hxe hb4 hn4 hap ho5 hgr hB45 hb5 hM5 hn3 hn5;refine zAh (S:=SE g (off+k*2) (.slice (some ⟨gr,o,none⟩) 1 1) q) 16 rfl zAr hS0 (fun _=>?_)
        rotate_left
        focus
         (have hrc1z:¬(rc:Int)=1:=by omega);(have h1rn:(1:Int)≤(rn:Int):=by omega);obtain⟨td,htd⟩:∃td:Option Addr,td=some ⟨gr,o+1,none⟩:=⟨_,rfl⟩;obtain⟨tn,htn⟩:∃tn:Nat,tn=rn-1:=⟨_,rfl⟩;obtain⟨tc,htc⟩:∃tc:Nat,tc=rc-1:=⟨_,rfl⟩;have HTL:Hid (RunesAt E w (.slice td tn tc) x.1.tail∧zMa (.slice td tn tc)):=⟨by rw[htn];exact hr.tail (by omega) (.inr htd),by rw[htn,htc];show rn-1≤rc-1;omega⟩;clear hAF hx hr hrn hck hhead hch hcc hq c0 c1 hd hxk;have hS0:SE g (off+k*2) (.slice (some ⟨gr,o,none⟩) rn rc) q wr.drew:=(hS.below hg HB.out).below (B:=wr.heap.size) (Nat.lt_of_lt_of_le hg HB.out.size) (Below.refl _ wr).drew;obtain⟨xss,ho,hxl,hxe⟩:=HM.out.ex;obtain⟨W4,hW4⟩:∃W4,W4=wr.drew.alloc (.cells #[.slice td tn tc,.int .i64 q] 108):=⟨_,rfl⟩;(have hb4:Below wr.heap.size wr W4:=by rw[hW4];exact((Below.refl _ wr).drew).alloc (by simp) _);(have hn4:W4.heap[wr.heap.size]?=some (.cells #[.slice td tn tc,.int .i64 q] 108):=by rw[hW4];exact zAb _ _);have hBr:w.heap.size≤wr.heap.size:=HB.out.size;obtain⟨v5,W5,hap,ho5,hgr,_⟩:=zAx rtyR (ho.below hb4) (Nat.le_trans hBr hb4.size) (x:=[.slice td tn tc,.int .i64 q]) ⟨rfl,by simp[Value.oneCell']⟩ (nb:=wr.heap.size) (fun j u hj=>by simp only[World.cell?,hn4];simpa using hj) (by have:=zGd c (l.take k);rw[hxl];rw[List.length_take]at this;omega) 60 1;have hB45:Below w.heap.size W4 W5:=zIf (ho.below hb4) hgr (Nat.le_trans hBr hb4.size);have hb5:Below w.heap.size w W5:=(HB.out.trans (hb4.mono hBr)).trans hB45;have hM5:RMade E w.heap.size W5 v5 (after c (l.take (k+1))):=by
          rw[HAF.out];refine RMade.push (w:=wr) (u := .slice td tn tc) (xss:=xss) hxl hxe ((hb4.mono (Nat.le_trans hE hBr)).trans (hB45.mono hE)) ?_ (HTL.out.1.below (HB.out.mono hE)) HTL.out.2;simp only[tl,HQ.out];exact ho5
         obtain⟨sd,sc,hsv,_⟩:=ho.shape;obtain⟨vd,vc,hvv,_⟩:=ho5.shape;obtain⟨n3,hn3⟩:∃n3,xss.length=n3:=⟨_,rfl⟩;obtain⟨n5,hn5⟩:∃n5,(xss++[[Value.slice td tn tc,.int .i64 q]]).length=n5:=⟨_,rfl⟩;rw[hn3]at hsv;rw[hn5]at hvv;subst hsv;subst hvv;have hS4:SE g (off+k*2) (.slice (some ⟨gr,o,none⟩) rn rc) q W4:=(hS.below hg HB.out).below (Nat.lt_of_lt_of_le hg hBr) hb4;have hS5:SE g (off+k*2) (.slice (some ⟨gr,o,none⟩) rn rc) q W5:=hS.below hg hb5;have HM5:Hid (RMade E w.heap.size W5 (.slice vd n5 vc) (after c (l.take (k+1)))):=hM5;have HB5:Hid (Below w.heap.size w W5):=hb5;have HAP:Hid ((Builtin.append_ #[60,60] 60 #[.slice sd n3 sc,.slice (some ⟨wr.heap.size,0,none⟩) 1 1]).run Tryz.prog W4 = .ok (.slice vd n5 vc) W5):=hap;clear hS ho hxl hxe hb4 hn4 hap ho5 hgr hB45 hb5 hM5 hn3 hn5;refine zAh (S:=SE g (off+k*2) (.slice (some ⟨gr,o,none⟩) rn rc) q) 16 rfl zAr hS0 (fun _=>?_)
        all_goals
         refine tq4 SE.facts 0 31 1 32 2 33 3 34 ?_;simp only[sZa,sZb,sZc];refine tq4 SE.facts 4 35 5 36 6 37 7 38 ?_;simp only[sZa,sZb,sZc];refine tq4 SE.facts 8 39 9 40 10 41 11 42 ?_;simp only[sZa,sZb,sZc];refine tq SE.facts 12 43 ?_;simp only[sZa,sZb,sZc];rw[htd,htn,htc]at hW4;refine zAo (i:=13) (v := .slice (some ⟨wr.heap.size,0,none⟩) 1 1) (w':=W4) 44 (by kernel_rfl) rfl rfl (by rfl) (by rw[hW4];go_simp;first|done|exact rfl) hS4 (fun _=>?_);simp only[sZa,sZb,sZc];refine zAo (i:=14) (v := .slice vd n5 vc) (w':=W5) 45 (by kernel_rfl) rfl rfl (by rfl) (zCj HAP.out) hS5 (fun _=>?_);simp only[sZa,sZb,sZc];refine zAo (i:=15) (v := .slice vd n5 vc) (w':=W5) 5 (by kernel_rfl) rfl rfl (by rfl) (by kernel_rfl) hS5 (fun _=>?_);refine wpAnyH_done (by kernel_rfl) ?_ _;simp only[sZa,sZb,sZc];clear hW4 hS4 hS5 hS0;go_wp2;go_roundg (n-(k+1));(case measure=>omega);case rel=>exact⟨k+1,by go_num,by omega,Nat.le_refl _,HM5,HB5⟩
      · have hcb:(ch==c)=false:=beq_eq_false_iff_ne.2 hcc
        rw[if_neg (fun e=>hcc (Option.some.inj e))]at hAF;(have HM2:Hid (RMade E w.heap.size wr u5 (after c (l.take (k+1)))):=by show RMade _ _ _ _ _;rw[hAF];exact HM.out);clear hAF hx hr hrn hck hhead hch hcc hq c0 c1 hd hxk;go_wp2;go_roundg (n-(k+1));(case measure=>omega);case rel=>exact⟨k+1,by go_num,by omega,Nat.le_refl _,HM2,HB⟩
    · have hr0z:¬(0:Int)<(rn:Int):=by omega
      have hx1:x.1=[]:=List.eq_nil_of_length_eq_zero (by omega);rw[hx1,if_neg (by simp)]at hAF;(have HM2:Hid (RMade E w.heap.size wr u5 (after c (l.take (k+1)))):=by show RMade _ _ _ _ _;rw[hAF];exact HM.out);clear hAF hx hr hrn hck hq c0 c1 hxk hx1;go_wp2;go_roundg (n-(k+1));(case measure=>omega);case rel=>exact⟨k+1,by go_num,by omega,Nat.le_refl _,HM2,HB⟩
  · have hltz:¬(k:Int)<(n:Int):=by omega
    have HE:Hid (l.take k=l):=List.take_of_length_le (by have:=HN.out;omega);go_wp2;go_ret;exact⟨_,rfl,by have:=HM.out;rwa [HE.out]at this,HB.out⟩
theorem RunesAt.row{E:Nat}{w:World}{v:Value}{xs:List Int}(h:RunesAt E w v xs):Row w v xs:=by
 obtain⟨ad,cap,rfl,hc⟩:=h;refine⟨ad,cap,rfl,fun h0=>?_⟩;obtain⟨g,off,rfl,_,hx⟩:=hc h0;refine⟨g,off,rfl,fun i hi=>?_⟩;rw[hx i xs[i] (List.getElem?_eq_getElem hi),List.getD_eq_getElem?_getD,List.getElem?_eq_getElem hi];rfl
structure SE2(g o g' o':Nat)(u u':Value)(w:World):Prop where
 c0:w.cell? ⟨g,o,none⟩=some u
 d0:w.cell? ⟨g',o',none⟩=some u'
theorem SE2.facts{g o g' o':Nat}{u u':Value}{w:World}(h:SE2 g o g' o' u u' w):w.cell? ⟨g,o,none⟩=some u∧w.cell? ⟨g',o',none⟩=some u':=⟨h.c0,h.d0⟩
theorem zO2(E E':Nat)(w:World)(va vb:Value)(S T:List En)(h1:RR E w va S)(h2:RR E' w vb T)(hS:S.length≤1048576)(hT:T.length≤1048576)(hx:∀e∈S,e.1.length≤1048576)(hy:∀e∈T,e.1.length≤1048576):
 Calls Tryz.prog 82 #[va,vb] w fun e w'=>e = .returned (.bool (decide (S=T)))∧∃q,w'=w.drewN q:=by
 obtain⟨ad1,cap1,rfl⟩:=h1.form;obtain⟨ad2,cap2,rfl⟩:=h2.form;obtain⟨n1,hn1⟩:∃n,S.length=n:=⟨_,rfl⟩;obtain⟨n2,hn2⟩:∃n,T.length=n:=⟨_,rfl⟩;have HN:Hid (S.length=n1∧T.length=n2):=⟨hn1,hn2⟩;rw[hn1]at h1 hS ⊢;rw[hn2]at h2 hT ⊢;have HR1:Hid (RR E w (.slice ad1 n1 cap1) S):=h1;have HR2:Hid (RR E' w (.slice ad2 n2 cap2) T):=h2;have HX:Hid ((∀e∈S,e.1.length≤1048576)∧∀e∈T,e.1.length≤1048576):=⟨hx,hy⟩;obtain⟨F,hF⟩:∃F,decide (S=T)=F:=⟨_,rfl⟩;have HF:Hid (decide (S=T)=F):=hF;rw[hF];clear h1 h2 hn1 hn2 hF hx hy;by_cases hne:¬n1=n2
 · have HE:Hid (F=false):=by
    show _=_;rw[←HF.out];exact decide_eq_false fun e=>hne (by rw[←HN.out.1,←HN.out.2,e])
   have hneb:((n1:Int)==(n2:Int))=false:=beq_eq_false_iff_ne.2 (by omega);go_enter Tryz.func82,Tryz.ntmps82;go_wp2;go_ret;exact⟨by rw[HE.out];rfl,0,rfl⟩
 have hne':n1=n2:=Classical.not_not.1 hne;subst hne';clear hne;go_enter Tryz.func82,Tryz.ntmps82;go_wp2
 go_loopg [5,6] n1 (fun g s5 _ wr=>∃(k q:Nat),s5 = .int .i64 k∧k≤n1∧n1-k≤g∧Hid (wr=w.drewN q)∧Hid (S.take k=T.take k))
 case atStart=>exact⟨0,0,rfl,Nat.zero_le _,by omega,rfl,by show _=_;simp⟩
 case round=>
  obtain⟨k,q,rfl,hk,hg,HW,HK⟩:=hrel;by_cases hlt:k<n1
  · have hltz:(k:Int)<(n1:Int):=by omega
    obtain⟨x,hx⟩:∃x,S[k]?=some x:=⟨S[k]'(by have:=HN.out;omega),List.getElem?_eq_getElem _⟩;obtain⟨y,hy⟩:∃y,T[k]?=some y:=⟨T[k]'(by have:=HN.out;omega),List.getElem?_eq_getElem _⟩;obtain⟨g1,o1,rfl,hg1,hc1⟩:=HR1.out.at (by omega);obtain⟨g2,o2,rfl,hg2,hc2⟩:=HR2.out.at (by omega);obtain⟨u1,⟨p0,p1,pr⟩,hz1⟩:=hc1 k x hx;obtain⟨u2,⟨q0,q1,qr⟩,hz2⟩:=hc2 k y hy;clear hz1 hz2;obtain⟨xd,xc,hxv,_⟩:=id pr;obtain⟨yd,yc,hyv,_⟩:=id qr;obtain⟨xn,hxn⟩:∃xn,x.1.length=xn:=⟨_,rfl⟩;obtain⟨yn,hyn⟩:∃yn,y.1.length=yn:=⟨_,rfl⟩;rw[hxn]at hxv;rw[hyn]at hyv;subst hxv;subst hyv;(have hS2:∀m,SE2 g1 (o1+k*2) g2 (o2+k*2) (.slice xd xn xc) (.slice yd yn yc) (w.drewN m):=fun m=>⟨p0,q0⟩);have HS2:Hid _:=hS2;(have hwrd:wr.drew=w.drewN (q+1):=by rw[HW.out];rfl);(have hS0:SE2 g1 (o1+k*2) g2 (o2+k*2) (.slice xd xn xc) (.slice yd yn yc) wr.drew:=by rw[hwrd];exact hS2 _);have hX:=HX.out.1 x (List.mem_of_getElem? hx);have hY:=HX.out.2 y (List.mem_of_getElem? hy);have HCALL:Hid (Calls Tryz.prog 119 #[.slice xd xn xc,.slice yd yn yc] wr.drew fun e w'=>e = .returned (.bool (decide (x.1=y.1)))∧∃m,w'=w.drewN m):=by
     show Calls _ _ _ _ _;rw[hwrd];have r1:Row (w.drewN (q+1)) (.slice xd xn xc) x.1:=(pr.below (belowN (Below.refl E w) (q+1))).row;have r2:Row (w.drewN (q+1)) (.slice yd yn yc) y.1:=(qr.below (belowN (Below.refl E' w) (q+1))).row;refine(Same_any _ _ x.1 y.1 _ r1 r2 (by omega) (by omega)).mono ?_;rintro e w' ⟨h1,m,h2⟩;exact⟨h1,_,by rw[h2];exact World.drewN_drewN ..⟩
    (have HP:Hid (∀m,(w.drewN m).cell? ⟨g1,o1+k*2+1,none⟩=some (.int .i64 x.2)∧(w.drewN m).cell? ⟨g2,o2+k*2+1,none⟩=some (.int .i64 y.2)):=fun m=>⟨p1,q1⟩);(have HNX:Hid (x=y→S.take (k+1)=T.take (k+1)):=fun e=>zGi HK.out hx hy e);have HNE:Hid (x≠y→F=false):=fun e=>by
     rw[←HF.out];(refine decide_eq_false fun e2=>e ?_);have h1:=hx;rw[e2,hy]at h1;exact(Option.some.inj h1).symm
    clear hc1 hc2 hx hy pr qr p0 p1 q0 q1 hxn hyn hS2 hwrd hX hY;(go_upto_region 6 with fail);refine zAh (S:=SE2 g1 (o1+k*2) g2 (o2+k*2) (.slice xd xn xc) (.slice yd yn yc)) 12 rfl zAr hS0 (fun _=>?_);refine tq4 SE2.facts 0 18 1 19 2 20 3 21 ?_;simp only[sZa,sZb,sZc];refine tq4 SE2.facts 4 22 5 23 6 24 7 25 ?_;simp only[sZa,sZb,sZc];refine tq2 SE2.facts 8 26 9 27 ?_;simp only[sZa,sZb,sZc];refine oc 10 wr.drew 28 119 #[.slice xd xn xc,.slice yd yn yc] ?_;refine HCALL.out.mono ?_;rintro e w3 ⟨rfl,m,hw3⟩;(have hS3:SE2 g1 (o1+k*2) g2 (o2+k*2) (.slice xd xn xc) (.slice yd yn yc) w3:=by rw[hw3];exact HS2.out m);refine⟨_,rfl,hS3,fun _=>?_⟩;simp only[sZa,sZb,sZc];refine zAo (i:=11) (v := .bool (decide (x.1=y.1))) (w':=w3) 6 (by kernel_rfl) rfl rfl (by rfl) (by kernel_rfl) hS3 (fun _=>?_);refine wpAnyH_done (by kernel_rfl) ?_ _;obtain⟨z0,z1⟩:=HP.out m;rw[←hw3]at z0 z1;(have HW3:Hid (∀j,∃q,w3.drewN j=w.drewN q):=fun j=>⟨_,by rw[hw3];exact World.drewN_drewN ..⟩);clear hw3 hS3 hS0;by_cases e1:x.1=y.1
    · rw[decide_eq_true e1]
      by_cases e2:x.2=y.2
      · have s2:(x.2==y.2)=true:=beq_iff_eq.2 e2
        have HK2:Hid (S.take (k+1)=T.take (k+1)):=HNX.out (Prod.ext e1 e2);clear e1 e2;simp only[sZa,sZb,sZc];(go_upto_region 7 with fail);go_quiet (fail);go_wp2;go_roundg (n1-(k+1));case measure=>exact Nat.lt_of_lt_of_le (Nat.sub_lt_sub_left hlt (Nat.lt_succ_self k)) hg
        case rel=>
         obtain⟨qq,hqq⟩:=HW3.out nq;exact⟨k+1,qq,by clear s2;go_num,hlt,Nat.le_refl _,hqq,HK2⟩
      · have s2:(x.2==y.2)=false:=beq_eq_false_iff_ne.2 e2
        have HE:Hid (F=false):=HNE.out (fun e=>e2 (by rw[e]));clear e1 e2;simp only[sZa,sZb,sZc];(go_upto_region 7 with fail);go_quiet (fail);go_wp2;go_ret;exact⟨by rw[HE.out];rfl,HW3.out _⟩
    · rw[decide_eq_false e1]
      have HE:Hid (F=false):=HNE.out (fun e=>e1 (by rw[e]));clear e1;simp only[sZa,sZb,sZc];(go_upto_region 7 with fail);go_quiet (fail);go_wp2;go_ret;exact⟨by rw[HE.out];rfl,HW3.out _⟩
  · have hltz:¬(k:Int)<(n1:Int):=by omega
    have HE:Hid (F=true):=by
     show _=_;rw[←HF.out];refine decide_eq_true ?_;have h:=HK.out;rw[List.take_of_length_le (by have:=HN.out;omega),List.take_of_length_le (by have:=HN.out;omega)]at h;exact h
    go_wp2;go_ret;exact⟨by rw[HE.out];rfl,q,HW.out⟩
structure AllOwn(E B:Nat)(w:World)(v:Value)(Ds:List (List En)):Prop where
 ex:∃xss:List (List Value),GOwn 60 1 B w v xss∧xss.length=Ds.length∧∀(i:Nat) (R:List En),Ds[i]?=some R→∃u,xss[i]?=some [u]∧RMade E B w u R
theorem AllOwn.nil(E B:Nat)(w:World):AllOwn E B w (.slice none 0 0) []:=⟨[],GOwn.nil _ _ _ _,rfl,fun i R hi=>by simp at hi⟩
theorem AllOwn.below{E B:Nat}{w w':World}{v:Value}{Ds:List (List En)}(h:AllOwn E B w v Ds)(hE:E≤w.heap.size)(hb:Below w.heap.size w w'):AllOwn E B w' v Ds:=by
 obtain⟨xss,ho,hl,hx⟩:=h;refine⟨xss,ho.below hb,hl,fun i R hi=>?_⟩;obtain⟨u,h1,h2⟩:=hx i R hi;exact⟨u,h1,h2.below hE hb⟩
theorem AllOwn.shape{E B:Nat}{w:World}{v:Value}{Ds:List (List En)}(h:AllOwn E B w v Ds):∃ad cap,v = .slice ad Ds.length cap:=by
 obtain⟨xss,ho,hl,_⟩:=h;obtain⟨ad,cap,e,_⟩:=ho.shape;exact⟨ad,cap,by rw[e,hl]⟩
theorem AllOwn.at{E B:Nat}{w:World}{ad:Option Addr}{n cap:Nat}{Ds:List (List En)}(h:AllOwn E B w (.slice ad n cap) Ds)(h0:0<n):∃g,ad=some ⟨g,0,none⟩∧g<w.heap.size∧∀(i:Nat) (R:List En),Ds[i]?=some R→∃u,w.cell? ⟨g,i,none⟩=some u∧RMade E B w u R:=by
 obtain⟨xss,ho,hl,hx⟩:=h;obtain⟨ad',cap',e,_⟩:=ho.shape;simp only[Value.slice.injEq]at e;obtain⟨g,cap2,e2,hg,_,_,hc⟩:=ho.cell (by omega);simp only[Value.slice.injEq]at e2;refine⟨g,e2.1,hg,fun i R hi=>?_⟩;obtain⟨u,h1,h2⟩:=hx i R hi;refine⟨u,?_,h2⟩;have:=hc i 0 _ u h1 rfl
 rwa [Nat.mul_one,Nat.add_zero]at this
theorem rtyRR:RTy 60 62 1 24:=⟨by kernel_rfl,⟨.slice none 0 0,by kernel_rfl,rfl⟩,by decide,by decide⟩
def zG9(R:List En):Prop:=R.length≤1048576∧∀e∈R,e.1.length≤1048576
def inIx(Ds:List (List En))(S:List En):Int:=if S∈Ds then (Ds.idxOf S:Int)else -1
theorem in_found{Ds:List (List En)}{S:List En}{k:Nat}(h:Ds[k]?=some S)(hn:S∉Ds.take k):inIx Ds S=k:=by
 have hm:=List.mem_of_getElem? h;rw[inIx,if_pos hm];have hk:=(List.getElem?_eq_some_iff.1 h).1;have e:Ds=Ds.take k++S::Ds.drop (k+1):=by
  have:=List.drop_eq_getElem_cons hk;rw[(List.getElem?_eq_some_iff.1 h).2]at this;rw[←this,List.take_append_drop]
 have h2:Ds.idxOf S=k:=by
  rw[e,List.idxOf_append,if_neg hn,List.idxOf_cons_self,List.length_take];omega
 rw[h2]
theorem zU8(E B E':Nat)(w:World)(v vl:Value)(Ds:List (List En))(S:List En)(h:AllOwn E B w v Ds)(hS:RR E' w vl S)(hsm:zG9 S)(hds:∀R∈Ds,zG9 R)(hdl:Ds.length≤1048576):
 Calls Tryz.prog 44 #[v,vl] w fun e w'=>e = .returned (.int .i64 (inIx Ds S))∧∃q,w'=w.drewN q:=by
 obtain⟨ad,cap,rfl⟩:=h.shape;obtain⟨la,lc,rfl⟩:=hS.form;obtain⟨n,hn⟩:∃n,Ds.length=n:=⟨_,rfl⟩;obtain⟨ln,hln⟩:∃ln,S.length=ln:=⟨_,rfl⟩;have HN:Hid (Ds.length=n):=hn;rw[hn]at h hdl ⊢;rw[hln]at hS ⊢;have HA:Hid (AllOwn E B w (.slice ad n cap) Ds):=h;have HS:Hid (RR E' w (.slice la ln lc) S):=hS;have HSM:Hid (zG9 S∧∀R∈Ds,zG9 R):=⟨hsm,hds⟩;obtain⟨F,hF⟩:∃F,inIx Ds S=F:=⟨_,rfl⟩;have HF:Hid (inIx Ds S=F):=hF;rw[hF];clear h hS hn hln hF hsm hds;go_enter Tryz.func44,Tryz.ntmps44;go_wp2
 go_loopg [5,6] n (fun g s5 _ wr=>∃(k q:Nat),s5 = .int .i64 k∧k≤n∧n-k≤g∧Hid (wr=w.drewN q)∧Hid (S∉Ds.take k))
 case atStart=>exact⟨0,0,rfl,Nat.zero_le _,by omega,rfl,fun h=>by simp at h⟩
 case round=>
  obtain⟨k,q,rfl,hk,hg,HW,HK⟩:=hrel;by_cases hlt:k<n
  · have hltz:(k:Int)<(n:Int):=by omega
    obtain⟨R,hR⟩:∃R,Ds[k]?=some R:=⟨Ds[k]'(by have:=HN.out;omega),List.getElem?_eq_getElem _⟩;obtain⟨ga,rfl,hga,hx⟩:=HA.out.at (by omega);obtain⟨u,hu,hM⟩:=hx k R hR;(have c0:wr.cell? ⟨ga,k,none⟩=some u:=by rw[HW.out];exact hu);obtain⟨ud,uc,rfl⟩:=hM.row.form;obtain⟨un,hun⟩:∃un,R.length=un:=⟨_,rfl⟩;have HCALL:Hid (Calls Tryz.prog 82 #[.slice ud R.length uc,.slice la ln lc] wr fun e w'=>e = .returned (.bool (decide (R=S)))∧∃q,w'=w.drewN q):=by
     show Calls _ _ _ _ _;rw[HW.out];have r1:RR E (w.drewN q) (.slice ud R.length uc) R:=by
      obtain⟨ad,cap,e,hc⟩:=hM.row;refine⟨ad,cap,e,fun h0=>?_⟩;obtain⟨g,off,h1,h2,h3⟩:=hc h0;exact⟨g,off,h1,h2,fun i e hi=>by obtain⟨u,⟨a,b,c⟩,d⟩:=h3 i e hi;exact⟨u,⟨a,b,c.below (belowN (Below.refl E w) q)⟩,d⟩⟩
     have r2:RR E' (w.drewN q) (.slice la ln lc) S:=by
      obtain⟨ad,cap,e,hc⟩:=HS.out;refine⟨ad,cap,e,fun h0=>?_⟩;obtain⟨g,off,h1,h2,h3⟩:=hc h0;exact⟨g,off,h1,h2,fun i e hi=>by obtain⟨u,⟨a,b,c⟩,d⟩:=h3 i e hi;exact⟨u,⟨a,b,c.below (belowN (Below.refl E' w) q)⟩,d⟩⟩
     have hsr:=HSM.out.2 R (List.mem_of_getElem? hR);refine(zO2 E E' (w.drewN q) _ _ R S r1 r2 hsr.1 HSM.out.1.1 hsr.2 HSM.out.1.2).mono ?_;rintro e w' ⟨h1,m,h2⟩;exact⟨h1,_,by rw[h2];exact World.drewN_drewN ..⟩
    (have HYES:Hid (R=S→F=(k:Int)):=fun e=>by rw[←HF.out];exact in_found (by rw[hR,e]) HK.out);have HNO:Hid (R≠S→S∉Ds.take (k+1)):=fun e hm=>by
     rw[List.take_add_one,hR]at hm;rcases List.mem_append.1 hm with hm|hm
     · exact HK.out hm
     · simp at hm;exact e hm.symm
    rw[hun]at c0 HCALL;clear hx hR hu hM hun;by_cases hRS:R=S
    · have HE:Hid (F=(k:Int)):=HYES.out hRS
      rw[decide_eq_true hRS]at HCALL;clear hRS;go_wp2_with (go_at_call 82;refine HCALL.out.mono ?_;rintro e w3 ⟨rfl,hw3⟩;have HW3:Hid _:=hw3;clear hw3);go_ret;exact⟨by rw[HE.out];rfl,HW3.out⟩
    · have HNO2:Hid (S∉Ds.take (k+1)):=HNO.out hRS
      rw[decide_eq_false hRS]at HCALL;clear hRS;go_wp2_with (go_at_call 82;refine HCALL.out.mono ?_;rintro e w3 ⟨rfl,hw3⟩;have HW3:Hid _:=hw3;clear hw3);go_roundg (n-(k+1));case measure=>omega
      case rel=>
       obtain⟨qq,hqq⟩:=HW3.out;exact⟨k+1,qq,by go_num,by omega,Nat.le_refl _,hqq,HNO2⟩
  · have hltz:¬(k:Int)<(n:Int):=by omega
    have HE:Hid (F = -1):=by
     show _=_;rw[←HF.out];have h:=HK.out;rw[List.take_of_length_le (by have:=HN.out;omega)]at h;rw[inIx,if_neg h]
    go_wp2;go_ret;exact⟨by rw[HE.out];rfl,q,HW.out⟩
structure RstsAt(B:Nat)(w:World)(v:Value)(es:List En):Prop where
 ex:∃xss:List (List Value),GOwn 108 2 B w v xss∧xss.length=es.length∧∀(i:Nat) (e:En),es[i]?=some e→∃u,xss[i]?=some [u,.int .i64 e.2]∧Made B w u e.1
theorem Made.cap{B:Nat}{w:World}{v:Value}{xs:List Int}(h:Made B w v xs):zMa v:=by
 obtain⟨_,⟨e,_⟩|⟨g,cap,cur,rfl,_,_,h3,_⟩⟩:=h
 · rw[e];exact Nat.le_refl _
 · exact h3
theorem RstsAt.row{B:Nat}{w:World}{v:Value}{es:List En}(h:RstsAt B w v es):RR w.heap.size w v es:=by
 obtain⟨xss,ho,hl,hx⟩:=h;by_cases h0:0<xss.length
 · obtain⟨g,cap,rfl,hg,_,_,hcell⟩:=ho.cell h0
   refine⟨_,cap,by rw[hl],fun _=>⟨g,0,rfl,hg,fun i e hi=>?_⟩⟩;obtain⟨u,hu,hm⟩:=hx i e hi;exact⟨u,⟨by rw[Nat.zero_add];exact hcell i 0 _ u hu rfl,by rw[Nat.zero_add];exact hcell i 1 _ _ hu rfl,hm.runes⟩,hm.cap⟩
 · obtain⟨ad,cap,rfl,_⟩:=ho.shape
   exact⟨ad,cap,by rw[hl],fun h=>absurd h (by omega)⟩
theorem zMz(w:World)(v:Value)(l:List Pr)(h:PRow w v l)(hl:l.length≤4096)(hwd:Wd l):
 Calls Tryz.prog 18 #[v] w fun e w'=>∃v',e = .returned v'∧RR w'.heap.size w' v' (ents l)∧Below w.heap.size w w':=by
 obtain⟨ad,cap,rfl⟩:=h.form;have HR:Hid (PRow w (.slice ad l.length cap) l):=h;obtain⟨n,hn⟩:∃n,l.length=n:=⟨_,rfl⟩;have HN:Hid (l.length=n):=hn;have HS:Hid (Wd l):=hwd;rw[hn]at HR hl;clear h hwd;rw[hn];clear hn;go_enter Tryz.func18,Tryz.ntmps18;go_wp2
 go_loopg [3,4,5,6] n (fun g s3 s4 _ _ wr=>∃(k:Nat),s4 = .int .i64 k∧k≤n∧n-k≤g∧Hid (Below w.heap.size w wr)∧Hid (RstsAt w.heap.size wr s3 (ents (l.take k))))
 case atStart=>exact⟨0,rfl,Nat.zero_le _,by omega,Below.refl _ _,⟨[],GOwn.nil _ _ _ _,rfl,fun i e hi=>by simp[ents]at hi⟩⟩
 case round=>
  obtain⟨k,rfl,hk,hg,HB,HK⟩:=hrel;by_cases hlt:k<n
  · have hltz:(k:Int)<(n:Int):=by omega
    obtain⟨x,hx⟩:∃x,l[k]?=some x:=⟨l[k]'(by have:=HN.out;omega),List.getElem?_eq_getElem _⟩;obtain⟨b,off,rfl,hb,hcell⟩:=(HR.out.below HB.out).at (by omega);obtain⟨c0,c1⟩:=hcell k x hx;obtain⟨xs,hxs,hx24,hx96⟩:=HS.out x (List.mem_of_getElem? hx);(have HE:Hid (ents (l.take (k+1))=ents (l.take k)++[(xs,x.2)]):=by show _=_;rw[zNs hx,zCx,hxs];rfl);have HRN:Hid (Calls Tryz.prog 42 #[.string x.1] wr fun e w'=>∃v,Below wr.heap.size wr w'∧e = .returned (.tuple #[v,.bool true])∧Made wr.heap.size w' v xs):=by
     refine(zHa x.1 wr (by omega) (zCg hxs (by omega))).mono ?_;rintro e w' ⟨v,hb,⟨h1,_⟩|⟨ys,h1,h2,h3⟩⟩
     · rw[hxs]at h1;cases h1
     · rw[hxs]at h1;cases h1;exact⟨v,hb,h2,h3⟩
    have HC1:Hid (wr.cell? ⟨b,off+k*2+1,none⟩=some (.int .i64 x.2)∧b<wr.heap.size):=⟨c1,hb⟩;clear hcell hx hxs;(go_upto_region 6 with(go_at_call 42;refine HRN.out.mono ?_;rintro e w2 ⟨v6,hb2,rfl,hm6⟩));obtain⟨xss,ho,hxl,hxe⟩:=HK.out.ex;have c21:w2.cell? ⟨b,off+k*2+1,none⟩=some (.int .i64 x.2):=(hb2.cell (p:=⟨b,off+k*2+1,none⟩) HC1.out.2).trans HC1.out.1;have ho2:GOwn 108 2 w.heap.size w2 u3 xss:=ho.below hb2;have hsz:w.heap.size≤wr.heap.size:=HB.out.size;have HO2:Hid (GOwn 108 2 w.heap.size w2 u3 xss):=ho2;have HM:Hid (∀(i:Nat) (e:En),(ents (l.take k))[i]?=some e→∃u,xss[i]?=some [u,.int .i64 e.2]∧Made w.heap.size w2 u e.1):=fun i e hi=>by
     obtain⟨u,h1,h2⟩:=hxe i e hi;exact⟨u,h1,h2.below hb2⟩
    have HM6:Hid (Made w.heap.size w2 v6 xs):=by
     obtain⟨hl,hn|⟨g,cap,cur,rfl,h1,h2⟩⟩:=hm6
     · exact⟨hl,.inl hn⟩
     · exact⟨hl,.inr ⟨g,cap,cur,rfl,by omega,h2⟩⟩
    obtain⟨ra,rc,rfl⟩:=hm6.shape;have HB2:Hid (Below w.heap.size w w2):=HB.out.trans (hb2.mono HB.out.size);(have HL:Hid (xss.length=k):=by show _=_;rw[hxl,zBa,List.length_take];have:=HN.out;omega);clear ho ho2 hxe hxl hm6 hb2 c0 c1;go_wp2_with (at_builtin;refine zC4 rtyR (by rfl) _ _ [.slice ra xs.length rc,.int .i64 x.2] _ rfl w.heap.size _ _ _ _ rfl HO2.out rfl rfl ⟨rfl,by simp[Value.oneCell']⟩ (by have:=HL.out;omega) HB2.out.size ?_);intro v7 w7 ho7 hb7 hg7;have HB7:Hid (Below w.heap.size w w7):=HB2.out.trans hb7;have HK7:Hid (RstsAt w.heap.size w7 v7 (ents (l.take (k+1)))):=by
     show RstsAt _ _ _ _;have hA2:Below w2.heap.size w2 (w2.alloc (.cells [.slice ra xs.length rc,.int .i64 x.2].toArray 108)):=(Below.refl _ w2).alloc (Nat.le_refl _) _;(have hk7:∀{u:Value} {ys:List Int},Made w.heap.size w2 u ys→Made w.heap.size w7 u ys:=fun h=>(h.below hA2).kept (HO2.out.below hA2) (by decide) hg7);rw[HE.out];refine⟨xss++[[.slice ra xs.length rc,.int .i64 x.2]],ho7,by simp[HL.out,zBa];have:=HN.out;omega,fun i e hi=>?_⟩;(have hlen:(ents (l.take k)).length=xss.length:=by rw[zBa,HL.out,List.length_take];have:=HN.out;omega);by_cases hik:i<xss.length
     · rw[List.getElem?_append_left (by omega)]at hi ⊢
       obtain⟨u,h1,h2⟩:=HM.out i e hi;exact⟨u,h1,hk7 h2⟩
     · rw[List.getElem?_append_right (by omega)]at hi ⊢
       rw[hlen]at hi;cases hi0:i-xss.length with
       |zero=>
        rw[hi0]at hi;simp only[List.getElem?_cons_zero,Option.some.injEq]at hi;subst hi;exact⟨_,rfl,hk7 HM6.out⟩
       |succ m=>rw[hi0]at hi;simp at hi
    clear ho7 hb7 hg7 HM HM6 HO2;go_wp2_with fail;go_roundg (n-(k+1));(case measure=>omega);case rel=>exact⟨k+1,by go_num,by omega,Nat.le_refl _,HB7,HK7⟩
  · have hltz:¬(k:Int)<(n:Int):=by omega
    have HE:Hid (l.take k=l):=List.take_of_length_le (by have:=HN.out;omega);go_wp2;go_ret;exact⟨_,rfl,by have:=HK.out.row;rwa [HE.out]at this,HB.out⟩
theorem RMade.mono{E B B':Nat}{w:World}{v:Value}{S:List En}(h:RMade E B w v S)(hB:B'≤B):RMade E B' w v S:=by
 obtain⟨xss,ho,hl,hx⟩:=h;exact⟨xss,ho.mono hB,hl,hx⟩
end
