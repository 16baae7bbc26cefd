import Derived.Test.YtobjpljdgieklaaGreatDoorJ28
import Derived.Sort.Grow
namespace Go.Proofs.YtobjpljdgieklaaGreatDoor
open Go.RowKit Nums Fm Pk
set_option maxRecDepth 100000
structure Gr(w w':World):Prop where
 bel:Below w.heap.size w w'
 dr:w.drawn≤w'.drawn
theorem Gr.refl(w:World):Gr w w:=⟨Below.refl _ _,Nat.le_refl _⟩
theorem Gr.trans{w w1 w2:World}(h1:Gr w w1)(h2:Gr w1 w2):Gr w w2:=⟨h1.bel.trans (h2.bel.mono h1.bel.size),Nat.le_trans h1.dr h2.dr⟩
theorem Gr.alloc{w w1:World}(h:Gr w w1)(o:Obj):Gr w (w1.alloc o):=⟨h.bel.alloc h.bel.size o,h.dr⟩
theorem Gr.drew{w w1:World}(h:Gr w w1):Gr w w1.drew:=⟨h.bel.drew,Nat.le_trans h.dr (Nat.le_succ _)⟩
theorem Gr.grown{w w':World}(h:Gr w w'):∃q os,w'=Go.Sort.grow (w.drewN q) os:=by
 refine⟨w'.drawn-w.drawn,w'.heap.extract w.heap.size w'.heap.size,?_⟩;have hh:w'.heap=w.heap++w'.heap.extract w.heap.size w'.heap.size:=by
  have hs:=h.bel.size;refine Array.ext ?_ fun i h1 h2=>?_
  · simp;omega
  · by_cases hi:i<w.heap.size
    · rw[Array.getElem_append_left hi]
      have e:=h.bel.block i hi;rw[Array.getElem?_eq_getElem h1,Array.getElem?_eq_getElem hi]at e;exact Option.some.inj e
    · rw[Array.getElem_append_right (by omega),Array.getElem_extract]
      congr 1;omega
 have hd:w'.drawn=w.drawn+(w'.drawn-w.drawn):=by have:=h.dr;omega
 cases w' with
 |mk heap tape drawn os output=>
  have e1:=h.bel.os;have e2:=h.bel.tape;have e3:=h.bel.output;simp only at e1 e2 e3 hh hd;simp only[Go.Sort.grow,World.drewN,World.mk.injEq];exact⟨hh,e2,hd,e1,e3⟩
theorem cmpU_any(x y:Int)(w:World):Calls Tryz.prog 171 #[.int .u64 x,.int .u64 y] w fun e w'=>e = .returned (.int .i64 (cmpI x y))∧w'=w:=by
 unfold cmpI;go_enter Tryz.func171,Tryz.ntmps171;by_cases h1:x<y
 · rw[if_pos h1]
   go_wp2;go_ret;exact⟨rfl,rfl⟩
 · rw[if_neg h1]
   by_cases h2:y<x
   · rw[if_pos h2]
     go_wp2;go_ret;exact⟨rfl,rfl⟩
   · rw[if_neg h2]
     go_wp2;go_ret;exact⟨rfl,rfl⟩
theorem zLb(x y:Int)(w:World):Calls Tryz.prog 173 #[.int .i64 x,.int .i64 y] w fun e w'=>e = .returned (.int .i64 (cmpI x y))∧w'=w:=by
 unfold cmpI;go_enter Tryz.func173,Tryz.ntmps173;by_cases h1:x<y
 · rw[if_pos h1]
   go_wp2;go_ret;exact⟨rfl,rfl⟩
 · rw[if_neg h1]
   by_cases h2:y<x
   · rw[if_pos h2]
     go_wp2;go_ret;exact⟨rfl,rfl⟩
   · rw[if_neg h2]
     go_wp2;go_ret;exact⟨rfl,rfl⟩
theorem zRa(x y:Int)(w:World):Calls Tryz.prog 111 #[.int .i32 x,.int .i32 y] w fun e w'=>e = .returned (.int .i64 (cmpI x y))∧w'=w:=by
 unfold cmpI;go_enter Tryz.func111,Tryz.ntmps111;by_cases h1:x<y
 · rw[if_pos h1]
   go_wp2;go_ret;exact⟨rfl,rfl⟩
 · rw[if_neg h1]
   by_cases h2:y<x
   · rw[if_pos h2]
     go_wp2;go_ret;exact⟨rfl,rfl⟩
   · rw[if_neg h2]
     go_wp2;go_ret;exact⟨rfl,rfl⟩
namespace Pk
theorem orI_at{l:List Int}{k:Nat}{c:Int}(h:l[k]?=some c):orI (l.drop k)=if c≠0 then c else orI (l.drop (k+1)):=by
 obtain⟨hk,rfl⟩:=List.getElem?_eq_some_iff.1 h;rw[List.drop_eq_getElem_cons hk,orI]
end Pk
set_option maxHeartbeats 1000000 in
theorem or_any(g n c:Nat)(l:List Int)(w:World)(hn:l.length=n)(hl:n≤4096)(hc:∀(i:Nat) (x:Int),l[i]?=some x→w.cell? ⟨g,i,none⟩=some (.int .i64 x)):
 Calls Tryz.prog 170 #[.slice (some ⟨g,0,none⟩) n c] w fun e w'=>e = .returned (.int .i64 (orI l))∧w'=w:=by
 have HC:Hid (∀(i:Nat) (x:Int),l[i]?=some x→w.cell? ⟨g,i,none⟩=some (.int .i64 x)):=hc;have HN:Hid (l.length=n):=hn;clear hc hn;go_enter Tryz.func170,Tryz.ntmps170;go_wp2
 go_loopg [5,8] n (fun gm _ s8 wr=>∃(k:Nat),s8 = .int .i64 k∧k≤n∧n-k≤gm∧Hid (orI l=orI (l.drop k))∧wr=w)
 case atStart=>exact⟨0,rfl,Nat.zero_le _,by omega,rfl,rfl⟩
 case round=>
  obtain⟨k,rfl,hk,hgm,HO,rfl⟩:=hrel;by_cases hlt:k<n
  · have hltz:(k:Int)<(n:Int):=by omega
    obtain⟨x,hx⟩:∃x,l[k]?=some x:=⟨l[k]'(by have:=HN.out;omega),List.getElem?_eq_getElem _⟩;have hcx:=HC.out k x hx;have HOA:Hid (orI l=if x≠0 then x else orI (l.drop (k+1))):=HO.out.trans (orI_at hx);clear hx;by_cases h0:x=0
    · subst h0
      have HF:Hid (orI l=orI (l.drop (k+1))):=HOA.out;go_wp2;go_roundg (n-(k+1));(case measure=>omega);case rel=>exact⟨k+1,by go_num,by omega,Nat.le_refl _,HF,rfl⟩
    · have HF:Hid (orI l=x):=by show _=_;rw[HOA.out,if_pos h0]
      have h1b:(x==0)=false:=beq_eq_false_iff_ne.2 h0;(have h1n:(x != 0)=true:=by simp[bne,h1b]);go_wp2;go_ret;exact⟨by rw[HF.out];rfl,rfl⟩
  · have hltz:¬(k:Int)<(n:Int):=by omega
    (have HF:Hid (orI l=0):=by show _=_;rw[HO.out,List.drop_of_length_le (by have:=HN.out;omega)];rfl);go_wp2;go_ret;exact⟨by rw[HF.out];rfl,rfl⟩
structure SA(ab bb:Nat)(x y:RArc)(w:World):Prop where
 a:w.heap[ab]?=some (.cells #[.int .i32 x.label,.int .i64 x.out,.int .i64 x.to] 126)
 b:w.heap[bb]?=some (.cells #[.int .i32 y.label,.int .i64 y.out,.int .i64 y.to] 126)
theorem SA.facts{ab bb:Nat}{x y:RArc}{w:World}(h:SA ab bb x y w):w.cell? ⟨ab,0,none⟩=some (.int .i32 x.label)∧w.cell? ⟨ab,1,none⟩=some (.int .i64 x.out)∧w.cell? ⟨ab,2,none⟩=some (.int .i64 x.to)∧w.cell? ⟨bb,0,none⟩=some (.int .i32 y.label)∧w.cell? ⟨bb,1,none⟩=some (.int .i64 y.out)∧w.cell? ⟨bb,2,none⟩=some (.int .i64 y.to):=
 ⟨by simp[World.cell?,h.a],by simp[World.cell?,h.a],by simp[World.cell?,h.a],by simp[World.cell?,h.b],by simp[World.cell?,h.b],by simp[World.cell?,h.b]⟩
theorem SA.below{ab bb:Nat}{x y:RArc}{w w':World}(h:SA ab bb x y w)(hb:Below w.heap.size w w'):SA ab bb x y w':=⟨(hb.block ab (Array.getElem?_eq_some_iff.1 h.a).1).trans h.a,(hb.block bb (Array.getElem?_eq_some_iff.1 h.b).1).trans h.b⟩
set_option maxHeartbeats 1000000 in
theorem zIc(x y:RArc)(w:World):Calls Tryz.prog 175 #[.agg #[.int .i32 x.label,.int .i64 x.out,.int .i64 x.to],.agg #[.int .i32 y.label,.int .i64 y.out,.int .i64 y.to]] w fun e w'=>e = .returned (.int .i64 (cmpA x y))∧Gr w w':=by
 obtain⟨ab,hab⟩:∃ab,ab=w.heap.size:=⟨_,rfl⟩;obtain⟨bb,hbb⟩:∃bb,bb=w.heap.size+1:=⟨_,rfl⟩;obtain⟨W,hW⟩:∃W,W=(w.alloc (.cells #[.int .i32 x.label,.int .i64 x.out,.int .i64 x.to] 126)).alloc (.cells #[.int .i32 y.label,.int .i64 y.out,.int .i64 y.to] 126):=⟨_,rfl⟩;have HG:Hid (Gr w W):=by show Gr w W;rw[hW];exact((Gr.refl w).alloc _).alloc _
 have hS:SA ab bb x y W:=by
  constructor
  · rw[hW,(MapKept.heap_alloc _ _).2 ab (by rw[hab];simp),hab]
    exact zAb _ _
  · have e:(w.alloc (.cells #[.int .i32 x.label,.int .i64 x.out,.int .i64 x.to] 126)).heap.size=bb:=by rw[hbb];simp
    rw[hW,←e];exact zAb _ _
 have hS0:SA ab bb x y W.drew:=hS.below (Below.refl _ W).drew;have HA:Hid (cmpA x y=orI [cmpI x.label y.label,cmpI x.out y.out,cmpI x.to y.to]):=rfl;have h1:=zRa x.label y.label W.drew;have h2:=zLb x.out y.out W.drew;have h3:=zLb x.to y.to W.drew;obtain⟨W4,hW4⟩:∃W4,W4=W.drew.alloc (.cells #[.int .i64 (cmpI x.label y.label),.int .i64 (cmpI x.out y.out),.int .i64 (cmpI x.to y.to)] 3):=⟨_,rfl⟩;have HG4:Hid (Gr w W4):=by show Gr w W4;rw[hW4];exact(HG.out.drew).alloc _
 have hn4:W4.heap[W.heap.size]?=some (.cells #[.int .i64 (cmpI x.label y.label),.int .i64 (cmpI x.out y.out),.int .i64 (cmpI x.to y.to)] 3):=by rw[hW4];exact zAb W.drew _
 have hS4:SA ab bb x y W4:=by rw[hW4];exact hS0.below ((Below.refl _ _).alloc (Nat.le_refl _) _)
 have h4:=or_any W.heap.size 3 3 [cmpI x.label y.label,cmpI x.out y.out,cmpI x.to y.to] W4 rfl (by decide) (fun i z hi=>by
  match i,hi with
  |0,hi=>simp at hi;subst hi;simp[World.cell?,hn4]
  |1,hi=>simp at hi;subst hi;simp[World.cell?,hn4]
  |2,hi=>simp at hi;subst hi;simp[World.cell?,hn4]
  |k+3,hi=>simp at hi)
 rw[←HA.out]at h4;generalize cmpA x y=CA at *;generalize cmpI x.label y.label=c1 at *;generalize cmpI x.out y.out=c2 at *;generalize cmpI x.to y.to=c3 at *;go_enter Tryz.func175,Tryz.ntmps175;go_upto_region 1 with fail
 rw[←hbb,←hab,←hW];clear hbb hab hW hS hn4;refine zAf (S:=SA ab bb x y) 18 rfl zAn hS0 (fun _=>?_);refine tq4 SA.facts 0 5 1 6 2 7 3 8 ?_;simp only[sZa,sZb,sZc];refine tq4 SA.facts 5 10 6 11 7 12 8 13 ?_;simp only[sZa,sZb,sZc];refine tq4 SA.facts 10 15 11 16 12 17 13 18 ?_;simp only[sZa,sZb,sZc];refine oc 4 W.drew 9 111 #[.int .i32 x.label,.int .i32 y.label] ?_;refine h1.mono ?_;rintro e w1 ⟨rfl,rfl⟩;refine⟨_,rfl,hS0,fun _=>?_⟩;simp only[sZa,sZb,sZc];refine oc 9 W.drew 14 173 #[.int .i64 x.out,.int .i64 y.out] ?_;refine h2.mono ?_;rintro e w1 ⟨rfl,rfl⟩;refine⟨_,rfl,hS0,fun _=>?_⟩;simp only[sZa,sZb,sZc];refine oc 14 W.drew 19 173 #[.int .i64 x.to,.int .i64 y.to] ?_;refine h3.mono ?_;rintro e w1 ⟨rfl,rfl⟩;refine⟨_,rfl,hS0,fun _=>?_⟩;simp only[sZa,sZb,sZc];refine zAo (i:=15) (v := .slice (some ⟨W.heap.size,0,none⟩) 3 3) (w':=W4) 20 (by kernel_rfl) rfl rfl (by rfl) (by rw[hW4];go_simp;first|done|exact rfl) hS4 (fun _=>?_);simp only[sZa,sZb,sZc];refine oc 16 W4 21 170 #[.slice (some ⟨W.heap.size,0,none⟩) 3 3] ?_;refine h4.mono ?_;rintro e w1 ⟨rfl,hw1⟩;rw[hw1];refine⟨_,rfl,hS4,fun _=>?_⟩;simp only[sZa,sZb,sZc];refine zAo (i:=17) (v := .int .i64 CA) (w':=W4) 4 (by kernel_rfl) rfl rfl (by rfl) (by go_simp;first|done|exact rfl) hS4 (fun _=>?_);simp only[sZa,sZb,sZc];refine wpAnyH_done (by kernel_rfl) ?_ _;go_wp2;go_ret;exact⟨rfl,HG4.out⟩
theorem zQy(s:RSt)(ad:Option Addr)(cap:Nat)(w:World)(hl:s.arcs.length≤1114112):Calls Tryz.prog 172 #[.agg #[.bool s.final,.int .i64 s.out,.slice ad s.arcs.length cap]] w fun e w'=>e = .returned (.int .u64 (zBw s))∧Gr w w':=by
 obtain⟨n,hn⟩:∃n,s.arcs.length=n:=⟨_,rfl⟩;have HH:Hid (zBw s=2*(n:Int)+(if s.final then 1 else 0)):=by show _=_;rw[←hn];rfl
 rw[hn]at hl ⊢;clear hn;have HG:Hid (∀o,Gr w (w.alloc o)):=fun o=>(Gr.refl w).alloc o
 have w1:IntKind.u64.wrap (n:Int)=(n:Int):=by simp[IntKind.wrap,IntKind.bits,IntKind.signed];omega
 have w2:IntKind.u64.wrap (2*(n:Int))=2*(n:Int):=by simp[IntKind.wrap,IntKind.bits,IntKind.signed];omega
 have w3:IntKind.u64.wrap (2*(n:Int)+1)=2*(n:Int)+1:=by simp[IntKind.wrap,IntKind.bits,IntKind.signed];omega
 generalize s.out=so at *;cases hf:s.final with
 |true=>
  rw[hf,if_pos rfl]at HH;go_enter Tryz.func172,Tryz.ntmps172;go_wp2;go_ret;refine⟨?_,HG.out _⟩;rw[HH.out];simp
 |false=>
  rw[hf,if_neg (by decide)]at HH;go_enter Tryz.func172,Tryz.ntmps172;go_wp2;go_ret;refine⟨?_,HG.out _⟩;rw[HH.out];simp
namespace Pk
theorem cmpL_at{xs ys:List RArc}{k:Nat}{x y:RArc}(hx:xs[k]?=some x)(hy:ys[k]?=some y):cmpL (xs.drop k) (ys.drop k)=if cmpA x y≠0 then cmpA x y else cmpL (xs.drop (k+1)) (ys.drop (k+1)):=by
 obtain⟨h1,rfl⟩:=List.getElem?_eq_some_iff.1 hx;obtain⟨h2,rfl⟩:=List.getElem?_eq_some_iff.1 hy;rw[List.drop_eq_getElem_cons h1,List.drop_eq_getElem_cons h2,cmpL]
theorem zWx{xs ys:List RArc}{k:Nat}(hx:k<xs.length)(hy:ys.length≤k):cmpL (xs.drop k) (ys.drop k)=1:=by
 rw[List.drop_eq_getElem_cons hx,List.drop_of_length_le hy,cmpL]
theorem cmpL_end{xs ys:List RArc}{k:Nat}(hx:xs.length≤k):cmpL (xs.drop k) (ys.drop k)=if k<ys.length then -1 else 0:=by
 rw[List.drop_of_length_le hx];by_cases h:k<ys.length
 · rw[List.drop_eq_getElem_cons h,cmpL,if_pos h]
 · rw[List.drop_of_length_le (by omega),cmpL,if_neg h]
end Pk
set_option maxHeartbeats 2000000 in
theorem zIb(E:Nat)(xs ys:List RArc)(va vb:Value)(w:World)(ha:ArcsAt E w va xs)(hb:ArcsAt E w vb ys)(hE:E≤w.heap.size):
 Calls Tryz.prog 174 #[va,vb,.func (.func 175) #[] #[]] w fun e w'=>e = .returned (.int .i64 (cmpL xs ys))∧Gr w w':=by
 obtain⟨ad,cap,rfl⟩:=ha.shape;obtain⟨bd,bcap,rfl⟩:=hb.shape;obtain⟨nx,hnx⟩:∃n,xs.length=n:=⟨_,rfl⟩;obtain⟨ny,hny⟩:∃n,ys.length=n:=⟨_,rfl⟩;have hlx:=ha.len;have hly:=hb.len;have HA:Hid (ArcsAt E w (.slice ad xs.length cap) xs):=ha;have HB:Hid (ArcsAt E w (.slice bd ys.length bcap) ys):=hb;have HNX:Hid (xs.length=nx):=hnx;have HNY:Hid (ys.length=ny):=hny;rw[hnx]at HA hlx ⊢;rw[hny]at HB hly ⊢;clear ha hb hnx hny;go_enter Tryz.func174,Tryz.ntmps174;go_wp2
 go_loopg [7,8,9,10,13] nx (fun gm _ _ _ _ s13 wr=>∃(k:Nat),s13 = .int .i64 k∧k≤nx∧nx-k≤gm∧Hid (cmpL xs ys=cmpL (xs.drop k) (ys.drop k))∧Hid (Gr w wr))
 case atStart=>exact⟨0,rfl,Nat.zero_le _,by omega,rfl,Gr.refl _⟩
 case round=>
  obtain⟨k,rfl,hk,hgm,HO,HG⟩:=hrel;by_cases hlt:k<nx
  · have hltz:(k:Int)<(nx:Int):=by omega
    obtain⟨x,hx⟩:∃x,xs[k]?=some x:=⟨xs[k]'(by have:=HNX.out;omega),List.getElem?_eq_getElem _⟩;obtain⟨g,off,rfl,hg,c0,c1,c2⟩:=(HA.out.below (HG.out.bel.mono hE)).at hx;by_cases hly2:k<ny
    · have hlyz:(k:Int)<(ny:Int):=by omega
      obtain⟨y,hy⟩:∃y,ys[k]?=some y:=⟨ys[k]'(by have:=HNY.out;omega),List.getElem?_eq_getElem _⟩;obtain⟨h,oh,rfl,hh,d0,d1,d2⟩:=(HB.out.below (HG.out.bel.mono hE)).at hy;(have hdA:∀(o:Obj) (j:Nat),(wr.alloc o).cell? ⟨h,j,none⟩=wr.cell? ⟨h,j,none⟩:=fun o j=>((Below.refl _ wr).alloc (Nat.le_refl _) o).cell (p:=⟨h,j,none⟩) (Nat.lt_of_lt_of_le hh (Nat.le_trans hE HG.out.bel.size)));(have d0':=fun o=>(hdA o _).trans d0);(have d1':=fun o=>(hdA o _).trans d1);(have d2':=fun o=>(hdA o _).trans d2);have HOA:Hid (cmpL xs ys=if cmpA x y≠0 then cmpA x y else cmpL (xs.drop (k+1)) (ys.drop (k+1))):=HO.out.trans (cmpL_at hx hy);obtain⟨ab,hab⟩:∃ab,ab=wr.heap.size:=⟨_,rfl⟩;obtain⟨bb,hbb⟩:∃bb,bb=wr.heap.size+1:=⟨_,rfl⟩;obtain⟨W,hW⟩:∃W,W=(wr.alloc (.cells #[.int .i32 x.label,.int .i64 x.out,.int .i64 x.to] 126)).alloc (.cells #[.int .i32 y.label,.int .i64 y.out,.int .i64 y.to] 126):=⟨_,rfl⟩;(have HGW:Hid (Gr w W):=by show Gr w W;rw[hW];exact(HG.out.alloc _).alloc _);have hS:SA ab bb x y W:=by
       constructor
       · rw[hW,(MapKept.heap_alloc _ _).2 ab (by rw[hab];simp),hab]
         exact zAb _ _
       · have e:(wr.alloc (.cells #[.int .i32 x.label,.int .i64 x.out,.int .i64 x.to] 126)).heap.size=bb:=by rw[hbb];simp
         rw[hW,←e];exact zAb _ _
      obtain⟨p0,p1,p2,p3,p4,p5⟩:=hS.facts;have HCA:Hid (Calls Tryz.prog 175 #[.agg #[.int .i32 x.label,.int .i64 x.out,.int .i64 x.to],.agg #[.int .i32 y.label,.int .i64 y.out,.int .i64 y.to]] W fun e w'=>e = .returned (.int .i64 (cmpA x y))∧Gr W w'):=zIc x y W;clear hx hy hdA d0 d1 d2 hS;generalize cmpA x y=c at *;(go_upto_region 7 with fail);rw[←hbb,←hab,←hW];clear hbb hab hW c0 c1 c2 d0' d1' d2';by_cases hc0:c=0
      · subst hc0
        have HF:Hid (cmpL xs ys=cmpL (xs.drop (k+1)) (ys.drop (k+1))):=HOA.out;go_wp2_with (go_at_call 175;refine HCA.out.mono ?_;rintro e w2 ⟨rfl,hg2⟩;have HG2:Hid (Gr W w2):=hg2;clear hg2);go_roundg (nx-(k+1));(case measure=>omega);case rel=>exact⟨k+1,by go_num,by omega,Nat.le_refl _,HF,HGW.out.trans HG2.out⟩
      · have HF:Hid (cmpL xs ys=c):=by show _=_;rw[HOA.out,if_pos hc0]
        have h1b:(c==0)=false:=beq_eq_false_iff_ne.2 hc0;(have h1n:(c != 0)=true:=by simp[bne,h1b]);go_wp2_with (go_at_call 175;refine HCA.out.mono ?_;rintro e w2 ⟨rfl,hg2⟩;have HG2:Hid (Gr W w2):=hg2;clear hg2);go_ret;exact⟨by rw[HF.out];rfl,HGW.out.trans HG2.out⟩
    · have hlyz:¬(k:Int)<(ny:Int):=by omega
      (have HF:Hid (cmpL xs ys=1):=by show _=_;rw[HO.out,zWx (by have:=HNX.out;omega) (by have:=HNY.out;omega)]);(have HGA:Hid (∀o,Gr w (wr.alloc o)):=fun o=>HG.out.alloc o);clear hx;go_wp2;go_ret;exact⟨by rw[HF.out];rfl,HGA.out _⟩
  · have hltz:¬(k:Int)<(nx:Int):=by omega
    (have hkx:k=nx:=by omega);have HE:Hid (cmpL xs ys=if nx<ny then -1 else 0):=by
     show _=_;rw[HO.out,cmpL_end (by have:=HNX.out;omega),HNY.out,hkx]
    by_cases hyx:nx<ny
    · have hyz:(nx:Int)<(ny:Int):=by omega
      rw[if_pos hyx]at HE;go_wp2;go_ret;exact⟨by rw[HE.out];rfl,HG.out⟩
    · have hyz:¬(nx:Int)<(ny:Int):=by omega
      rw[if_neg hyx]at HE;go_wp2;go_ret;exact⟨by rw[HE.out];rfl,HG.out⟩
