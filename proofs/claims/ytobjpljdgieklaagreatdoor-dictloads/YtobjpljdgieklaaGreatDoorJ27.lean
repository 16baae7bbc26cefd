import Derived.Test.YtobjpljdgieklaaGreatDoorFBuild2
import Derived.Test.YtobjpljdgieklaaGreatDoorJ23
import Derived.Test.YtobjpljdgieklaaGreatDoorJ14
set_option maxRecDepth 100000
set_option maxHeartbeats 8000000
namespace Go.Proofs.YtobjpljdgieklaaGreatDoor
section
open Go.RowKit Nums Fm
theorem StRow.shape{B:Nat}{w:World}{vs:Value}{b:List St}(h:StRow B w vs b):∃ad cap,vs = .slice ad b.length cap:=by
 obtain⟨xss,h1,h2,_⟩:=h;obtain⟨ad,cap,h3,_⟩:=h1.shape;exact⟨ad,cap,by rw[h3,h2]⟩
theorem zRt{α:Type}{l m:List α}{k:Nat}{x y:α}(h:l.take k=m.take k)(hx:l[k]?=some x)(hy:m[k]?=some y)(e:x=y):l.take (k+1)=m.take (k+1):=by
 obtain⟨h1,e1⟩:=List.getElem?_eq_some_iff.1 hx;obtain⟨h2,e2⟩:=List.getElem?_eq_some_iff.1 hy;rw[List.take_succ_eq_append_getElem h1,List.take_succ_eq_append_getElem h2,e1,e2,h,e]
structure Behind(w wm:World)(mb:Nat)(base:Int)(vs:Value)(b:List St):Prop where
 bel:Below w.heap.size w wm
 row:StRow w.heap.size wm vs b
 mac:wm.heap[mb]?=some (.cells #[.int .i64 base,vs] 39)
theorem zSf{l:List Pr}:(zAg l).2.length≤102400:=by
 rw[zAg]
 split
 · rename_i h
   have hg:=zCd h.1 h.2;have h1:=(zFi 25 [] (ents l) (zEk 25 _ hg.1 hg.2.1 hg.2.2)).2.1;have h2:=zO9 (zB2 h.1).en.ln;rw[zBb]at h2;have h3:=(zB2 h.1).len;simp only[List.length_nil]at h1;show(stF 25 [] (ents l)).1.length≤102400;omega
 · simp
theorem zQs:∀x:List Int,lexL x x=false
 |[]=>rfl
 |a::x=>by rw[zD9,zQs x]
theorem wt_mem:∀{S:List En} {xs:List Int} {n:Int},Rise S→(xs,n)∈S→wt xs S=some n
 |[],_,_,_,h=>by cases h
 |e::r,xs,n,hr,h=>by
  obtain⟨h1,h2⟩:=List.pairwise_cons.1 hr;rw[zF7];rcases List.mem_cons.1 h with h|h
  · rw[←h,if_pos rfl]
  · have:=h1 _ h
    (have hne:e.1≠xs:=fun e2=>by rw[e2]at this;simp only[zQs]at this;cases this);rw[if_neg hne,wt_mem h2 h]
def zLo:Value→Prop
 |.slice _ n c=>n≤c
 |_=>False
def RR(E:Nat)(w:World)(v:Value)(S:List En):Prop:=
 ∃ad cap,v = .slice ad S.length cap∧(0<S.length→∃g off,ad=some ⟨g,off,none⟩∧g<w.heap.size∧∀i e,S[i]?=some e→∃u,EntAt E w g (off+i*2) u e∧zLo u)
theorem RR.below{E:Nat}{w w':World}{v:Value}{S:List En}(h:RR E w v S)(hE:E≤w.heap.size)(hb:Below w.heap.size w w'):RR E w' v S:=by
 obtain⟨ad,cap,rfl,hc⟩:=h;refine⟨ad,cap,rfl,fun h0=>?_⟩;obtain⟨g,off,rfl,hg,hx⟩:=hc h0;refine⟨g,off,rfl,Nat.lt_of_lt_of_le hg hb.size,fun i e hi=>?_⟩;obtain⟨u,⟨c0,c1,hr⟩,hk⟩:=hx i e hi;exact⟨u,⟨(hb.cell (p:=⟨g,off+i*2,none⟩) hg).trans c0,(hb.cell (p:=⟨g,off+i*2+1,none⟩) hg).trans c1,hr.below (hb.mono hE)⟩,hk⟩
theorem RR.form{E:Nat}{w:World}{v:Value}{S:List En}(h:RR E w v S):∃ad cap,v = .slice ad S.length cap:=by
 obtain⟨ad,cap,e,_⟩:=h;exact⟨ad,cap,e⟩
theorem RR.at{E:Nat}{w:World}{ad:Option Addr}{n cap:Nat}{S:List En}(h:RR E w (.slice ad n cap) S)(h0:0<n):∃g off,ad=some ⟨g,off,none⟩∧g<w.heap.size∧∀i e,S[i]?=some e→∃u,EntAt E w g (off+i*2) u e∧zLo u:=by
 obtain⟨ad',cap',e,hc⟩:=h;simp only[Value.slice.injEq]at e;obtain⟨rfl,h2,rfl⟩:=e;exact hc (by omega)
structure RMade(E B:Nat)(w:World)(v:Value)(S:List En):Prop where
 ex:∃xss:List (List Value),GOwn 153 2 B w v xss∧xss.length=S.length∧∀(i:Nat) (e:En),S[i]?=some e→∃u,xss[i]?=some [u,.int .i64 e.2]∧RunesAt E w u e.1∧zLo u
theorem RMade.nil(E B:Nat)(w:World):RMade E B w (.slice none 0 0) []:=⟨[],GOwn.nil _ _ _ _,rfl,fun i e hi=>by simp at hi⟩
theorem RMade.row{E B:Nat}{w:World}{v:Value}{S:List En}(h:RMade E B w v S):RR E w v S:=by
 obtain⟨xss,ho,hl,hx⟩:=h;by_cases h0:0<xss.length
 · obtain⟨g,cap,rfl,hg,_,_,hcell⟩:=ho.cell h0
   refine⟨_,cap,by rw[hl],fun _=>⟨g,0,rfl,hg,fun i e hi=>?_⟩⟩;obtain⟨u,hu,hm,hk⟩:=hx i e hi;exact⟨u,⟨by rw[Nat.zero_add];exact hcell i 0 _ u hu rfl,by rw[Nat.zero_add];exact hcell i 1 _ _ hu rfl,hm⟩,hk⟩
 · obtain⟨ad,cap,rfl,_⟩:=ho.shape
   exact⟨ad,cap,by rw[hl],fun h=>absurd h (by omega)⟩
theorem RMade.below{E B:Nat}{w w':World}{v:Value}{S:List En}(h:RMade E B w v S)(hE:E≤w.heap.size)(hb:Below w.heap.size w w'):RMade E B w' v S:=by
 obtain⟨xss,ho,hl,hx⟩:=h;refine⟨xss,ho.below hb,hl,fun i e hi=>?_⟩;obtain⟨u,h1,h2,h3⟩:=hx i e hi;exact⟨u,h1,h2.below (hb.mono hE),h3⟩
theorem rtyR:RTy 153 92 2 32:=⟨by kernel_rfl,⟨.agg #[.slice none 0 0,.int .i64 0],by kernel_rfl,rfl⟩,by decide,by decide⟩
theorem RMade.push{E B:Nat}{w w':World}{v':Value}{S:List En}{e:En}{u:Value}{xss:List (List Value)}(hl:xss.length=S.length)(hx:∀(i:Nat) (e:En),S[i]?=some e→∃u,xss[i]?=some [u,.int .i64 e.2]∧RunesAt E w u e.1∧zLo u)(hb:Below E w w')(ho:GOwn 153 2 B w' v' (xss++[[u,.int .i64 e.2]]))(hu:RunesAt E w u e.1)(hk:zLo u):RMade E B w' v' (S++[e]):=by
 refine⟨_,ho,by simp[hl],fun i x hi=>?_⟩;by_cases hil:i<S.length
 · rw[List.getElem?_append_left hil]at hi
   obtain⟨y,h1,h2,h3⟩:=hx i x hi;exact⟨y,by rw[List.getElem?_append_left (by omega)];exact h1,h2.below hb,h3⟩
 · rw[List.getElem?_append_right (by omega)]at hi
   cases hi0:i-S.length with
   |zero=>
    rw[hi0]at hi;simp only[List.getElem?_cons_zero,Option.some.injEq]at hi;subst hi;exact⟨u,by rw[List.getElem?_append_right (by omega),hl,hi0];rfl,hu.below hb,hk⟩
   |succ j=>rw[hi0]at hi;simp at hi
theorem zD2(E:Nat)(w:World)(v:Value)(l:List En)(h:RR E w v l)(h0:0<l.length)(hl:l.length≤1048576):
 Calls Tryz.prog 54 #[v] w fun e w'=>e = .returned (.int .i64 (least l))∧w'=w:=by
 obtain⟨ad,cap,rfl⟩:=h.form;obtain⟨n,hn⟩:∃n,l.length=n:=⟨_,rfl⟩;have HN:Hid (l.length=n):=hn;rw[hn]at h hl h0 ⊢;have h0z:(0:Int)<(n:Int):=by omega
 obtain⟨g,off,rfl,hg,hx⟩:=h.at h0;obtain⟨e0,he0⟩:∃e0,l[0]?=some e0:=⟨l[0]'(by have:=HN.out;omega),List.getElem?_eq_getElem _⟩;obtain⟨u0,hu0,_⟩:=hx 0 e0 he0;obtain⟨_,a1,_⟩:=hu0;rw[Nat.zero_mul,Nat.add_zero]at a1;have HL:Hid (least l=zAs e0.2 l):=by
  show _=_;cases l with
  |nil=>simp at he0
  |cons x r=>simp only[List.getElem?_cons_zero,Option.some.injEq]at he0;subst he0;rfl
 have HX:Hid (∀(i:Nat) (e:En),l[i]?=some e→w.cell? ⟨g,off+i*2+1,none⟩=some (.int .i64 e.2)):=fun i e hi=>by obtain⟨u,hu,_⟩:=hx i e hi;exact hu.c1
 clear h hx he0 hn;go_enter Tryz.func54,Tryz.ntmps54;go_wp2
 go_loopg [3,4] n (fun gm s3 s4 wr=>∃(k:Nat),s4 = .int .i64 k∧k≤n∧n-k≤gm∧s3 = .int .i64 (zAs e0.2 (l.take k))∧wr=w)
 case atStart=>exact⟨0,rfl,Nat.zero_le _,by omega,by simp[zAs],rfl⟩
 case round=>
  obtain⟨k,rfl,hk,hgm,rfl,rfl⟩:=hrel;by_cases hlt:k<n
  · have hltz:(k:Int)<(n:Int):=by omega
    obtain⟨x,hx⟩:∃x,l[k]?=some x:=⟨l[k]'(by have:=HN.out;omega),List.getElem?_eq_getElem _⟩;have c1:=HX.out k x hx;have HS:Hid (zAs e0.2 (l.take (k+1))=if x.2<zAs e0.2 (l.take k)then x.2 else zAs e0.2 (l.take k)):=zH1 hx _;clear hx;generalize zAs e0.2 (l.take k)=m at *;go_wp2
    all_goals
     go_roundg (n-(k+1));(case measure=>omega);case rel=>exact⟨k+1,by go_num,by omega,Nat.le_refl _,by(first|(rw[HS.out,if_pos (by omega)];done)|(rw[HS.out,if_neg (by omega)];done)|(rw[HS.out];simp only[Int.min_def];split<;>split<;>first|rfl|(congr 1;omega))),rfl⟩
  · have hltz:¬(k:Int)<(n:Int):=by omega
    (have HE:Hid (zAs e0.2 (l.take k)=zAs e0.2 l):=by show _=_;rw[List.take_of_length_le (by have:=HN.out;omega)]);go_wp2;go_ret;exact⟨by rw[HE.out,HL.out];rfl,rfl⟩
structure SE(g o:Nat)(u:Value)(n:Int)(w:World):Prop where
 c0:w.cell? ⟨g,o,none⟩=some u
 c1:w.cell? ⟨g,o+1,none⟩=some (.int .i64 n)
theorem SE.facts{g o:Nat}{u:Value}{n:Int}{w:World}(h:SE g o u n w):w.cell? ⟨g,o,none⟩=some u∧w.cell? ⟨g,o+1,none⟩=some (.int .i64 n):=⟨h.c0,h.c1⟩
theorem SE.below{g o:Nat}{u:Value}{n:Int}{w w':World}{B:Nat}(h:SE g o u n w)(hg:g<B)(hb:Below B w w'):SE g o u n w':=⟨(hb.cell (p:=⟨g,o,none⟩) hg).trans h.c0,(hb.cell (p:=⟨g,o+1,none⟩) hg).trans h.c1⟩
theorem zR1(n:Int){l:List En}{k:Nat}{e:En}(h:l[k]?=some e):zAh n (l.take (k+1))=zAh n (l.take k)++[(e.1,e.2+n)]:=by
 rw[List.take_add_one,h];simp[zAh]
theorem zMc(E:Nat)(w:World)(v:Value)(l:List En)(h:RR E w v l)(h0:0<l.length)(hl:l.length≤1048576)(hE:E≤w.heap.size)(hw:∀e∈l,0≤e.2∧e.2≤1048576):
 Calls Tryz.prog 89 #[v] w fun e w'=>∃v',e = .returned v'∧RMade E w.heap.size w' v' (zAd l)∧Below w.heap.size w w':=by
 obtain⟨ad,cap,rfl⟩:=h.form;obtain⟨n,hn⟩:∃n,l.length=n:=⟨_,rfl⟩;have HN:Hid (l.length=n):=hn;have HLE:=zD2 E w _ l h h0 hl;rw[hn]at h hl h0 HLE ⊢;have hne:l≠[]:=fun e=>by rw[e]at hn;simp at hn;omega
 obtain⟨base,hbase⟩:∃base,least l=base:=⟨_,rfl⟩;rw[hbase]at HLE;have hbb:0≤base∧base≤1048576:=by rw[←hbase];exact zKy hne hw
 have HBASE:Hid (least l=base):=hbase;have HLEH:Hid (Calls Tryz.prog 54 #[.slice ad n cap] w fun e w'=>e = .returned (.int .i64 base)∧w'=w):=HLE;obtain⟨g,off,rfl,hg,hx⟩:=h.at h0;have HX:Hid (∀(i:Nat) (e:En),l[i]?=some e→∃u,EntAt E w g (off+i*2) u e∧zLo u):=hx;have HW:Hid (∀e∈l,0≤e.2∧e.2≤1048576):=hw;clear h hx hn HLE hw hne hbase;go_enter Tryz.func89,Tryz.ntmps89;go_upto_region 3 with(go_at_call 54;refine HLEH.out.mono ?_;rintro e w1 ⟨rfl,hw1⟩;rw[hw1];clear hw1)
 go_wp2
 go_loopg [3,5] n (fun gm s3 s5 wr=>∃(k:Nat),s5 = .int .i64 k∧k≤n∧n-k≤gm∧Hid (RMade E w.heap.size wr s3 (zAh (-base) (l.take k)))∧Hid (Below w.heap.size w wr))
 case atStart=>exact⟨0,rfl,Nat.zero_le _,by omega,RMade.nil _ _ _,Below.refl _ _⟩
 case round=>
  obtain⟨k,rfl,hk,hgm,HM,HB⟩:=hrel;by_cases hlt:k<n
  · have hltz:(k:Int)<(n:Int):=by omega
    obtain⟨x,hxk⟩:∃x,l[k]?=some x:=⟨l[k]'(by have:=HN.out;omega),List.getElem?_eq_getElem _⟩;obtain⟨u,⟨c0,c1,hr⟩,hck⟩:=HX.out k x hxk;obtain⟨ra,rc,hu,_⟩:=id hr;obtain⟨rn,hrn⟩:∃rn,x.1.length=rn:=⟨_,rfl⟩;rw[hrn]at hu;subst hu;obtain⟨q,hq⟩:∃q,x.2=q:=⟨_,rfl⟩;have hqb:=HW.out x (List.mem_of_getElem? hxk);rw[hq]at c1 hqb;have hS:SE g (off+k*2) (.slice ra rn rc) q w:=⟨c0,c1⟩;have hS0:SE g (off+k*2) (.slice ra rn rc) q wr.drew:=(hS.below hg HB.out).below (B:=wr.heap.size) (Nat.lt_of_lt_of_le hg HB.out.size) (Below.refl _ wr).drew;(have hwr:IntKind.i64.wrap (q-base)=q-base:=by rw[IntKind.wrap_i64];omega);obtain⟨xss,ho,hxl,hxe⟩:=HM.out.ex;obtain⟨W4,hW4⟩:∃W4,W4=wr.drew.alloc (.cells #[.slice ra rn rc,.int .i64 (q-base)] 153):=⟨_,rfl⟩;(have hb4:Below wr.heap.size wr W4:=by rw[hW4];exact((Below.refl _ wr).drew).alloc (by simp) _);(have hn4:W4.heap[wr.heap.size]?=some (.cells #[.slice ra rn rc,.int .i64 (q-base)] 153):=by rw[hW4];exact zAb _ _);have hBr:w.heap.size≤wr.heap.size:=HB.out.size;obtain⟨v5,W5,hap,ho5,hgr,_⟩:=zAw rtyR (ho.below hb4) (Nat.le_trans hBr hb4.size) (x:=[.slice ra rn rc,.int .i64 (q-base)]) ⟨rfl,by simp[Value.oneCell']⟩ (nb:=wr.heap.size) (fun j u hj=>by simp only[World.cell?,hn4];simpa using hj) (by rw[hxl];simp only[zAh,List.length_map,List.length_take];omega) 92 1;have hB45:Below w.heap.size W4 W5:=zH4 (ho.below hb4) hgr (Nat.le_trans hBr hb4.size);have hb5:Below w.heap.size w W5:=(HB.out.trans (hb4.mono hBr)).trans hB45;have hM5:RMade E w.heap.size W5 v5 (zAh (-base) (l.take (k+1))):=by
     rw[zR1 (-base) hxk];refine RMade.push (w:=wr) (u := .slice ra rn rc) (xss:=xss) hxl hxe ((hb4.mono (Nat.le_trans hE hBr)).trans (hB45.mono hE)) ?_ (hr.below (HB.out.mono hE)) hck;simp only[hq];exact ho5
    obtain⟨sd,sc,hsv,_⟩:=ho.shape;obtain⟨vd,vc,hvv,_⟩:=ho5.shape;obtain⟨n3,hn3⟩:∃n3,xss.length=n3:=⟨_,rfl⟩;obtain⟨n5,hn5⟩:∃n5,(xss++[[Value.slice ra rn rc,.int .i64 (q-base)]]).length=n5:=⟨_,rfl⟩;rw[hn3]at hsv;rw[hn5]at hvv;subst hsv;subst hvv;have hS4:SE g (off+k*2) (.slice ra rn rc) q W4:=(hS.below hg HB.out).below (Nat.lt_of_lt_of_le hg hBr) hb4;have hS5:SE g (off+k*2) (.slice ra rn rc) q W5:=hS.below hg hb5;have HM5:Hid (RMade E w.heap.size W5 (.slice vd n5 vc) (zAh (-base) (l.take (k+1)))):=hM5;have HB5:Hid (Below w.heap.size w W5):=hb5;have HAP:Hid ((Builtin.append_ #[92,92] 92 #[.slice sd n3 sc,.slice (some ⟨wr.heap.size,0,none⟩) 1 1]).run Tryz.prog W4 = .ok (.slice vd n5 vc) W5):=hap;clear hxk hr hrn hq hS hck ho hxl hxe hb4 hn4 hap ho5 hgr hB45 hb5 hM5 hn3 hn5 c0 c1;(go_upto_region 6 with fail);refine zAf (S:=SE g (off+k*2) (.slice ra rn rc) q) 17 rfl zAn hS0 (fun _=>?_);refine tq4 SE.facts 0 14 1 15 2 16 3 17 ?_;simp only[sZa,sZb,sZc];refine tq4 SE.facts 4 18 5 19 6 20 7 21 ?_;simp only[sZa,sZb,sZc];refine tq4 SE.facts 8 22 9 23 10 24 11 25 ?_;simp only[sZa,sZb,sZc];refine tq2 SE.facts 12 26 13 27 ?_;simp only[sZa,sZb,sZc];refine zAo (i:=14) (v := .slice (some ⟨wr.heap.size,0,none⟩) 1 1) (w':=W4) 28 (by kernel_rfl) rfl rfl (by rfl) (by rw[hW4];go_simp;first|done|exact rfl) hS4 (fun _=>?_);simp only[sZa,sZb,sZc];refine zAo (i:=15) (v := .slice vd n5 vc) (w':=W5) 29 (by kernel_rfl) rfl rfl (by rfl) (zCi HAP.out) hS5 (fun _=>?_);simp only[sZa,sZb,sZc];refine zAo (i:=16) (v := .slice vd n5 vc) (w':=W5) 3 (by kernel_rfl) rfl rfl (by rfl) (by kernel_rfl) hS5 (fun _=>?_);refine wpAnyH_done (by kernel_rfl) ?_ _;simp only[sZa,sZb,sZc];clear hW4 hS4 hS5 hS0;go_wp2;go_roundg (n-(k+1));(case measure=>omega);case rel=>exact⟨k+1,by go_num,by omega,Nat.le_refl _,HM5,HB5⟩
  · have hltz:¬(k:Int)<(n:Int):=by omega
    (have HE:Hid (zAh (-base) (l.take k)=zAd l):=by show _=_;rw[List.take_of_length_le (by have:=HN.out;omega),zAd,HBASE.out]);go_wp2;go_ret;exact⟨_,rfl,by have:=HM.out;rwa [HE.out]at this,HB.out⟩
end
