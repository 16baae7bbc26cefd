import Derived.Test.YtobjpljdgieklaaGreatDoorCmpW
import Derived.Shelf.SlicesE.Clone
import Derived.Shelf.SlSortCmp.WholeK
import Derived.Ground.SlgnProg
import Derived.Test.YtobjpljdgieklaaGreatDoorJ27
import Derived.Test.YtobjpljdgieklaaGreatDoorJ36
set_option maxRecDepth 100000
set_option maxHeartbeats 8000000
namespace Go.Proofs.YtobjpljdgieklaaGreatDoor
section
open Go.RowKit Nums Fm Pk
structure SLn(wb g off k:Nat)(ws:Value)(c:Nat)(W:World):Prop where
 c2:W.cell? ⟨wb,2,none⟩=some ws
 cx:W.cell? ⟨g,off+k,none⟩=some (.int .i64 (c:Int))
theorem SLn.facts{wb g off k:Nat}{ws:Value}{c:Nat}{W:World}(h:SLn wb g off k ws c W):W.cell? ⟨wb,2,none⟩=some ws∧W.cell? ⟨g,off+k,none⟩=some (.int .i64 (c:Int)):=⟨h.1,h.2⟩
theorem Len_any(E:Nat)(w:World)(wb:Nat)(base:Int)(m:List RSt)(cs:List Nat)(h:WkAt E w wb base m cs)(hcs:cs.length=m.length):
 Calls Tryz.prog 58 #[.pointer (some ⟨wb,0,none⟩)] w fun e w'=>e = .returned (.int .i64 ((cs.getD (m.length-1) 0:Nat):Int))∧Below w.heap.size w w':=by
 have HRT:Hid (∀W,WkAt E W wb base m cs→Calls Tryz.prog 70 #[.pointer (some ⟨wb,0,none⟩)] W fun e w'=>e = .returned (.int .i64 ((m.length:Int)-1))∧w'=W):=fun W hW=>zHh E W wb base m cs hW
 by_cases h0:m=[]
 · subst h0
   have HH:Hid (WkAt E w wb base [] cs):=h;have HC:Hid (cs=[]):=List.eq_nil_of_length_eq_zero hcs;clear h hcs;go_enter Tryz.func58,Tryz.ntmps58;go_wp2_with (go_at_call 70;refine(HRT.out _ HH.out).mono ?_;rintro e w1 ⟨rfl,hw1⟩;rw[hw1];clear hw1);go_ret;exact⟨by rw[HC.out];rfl,Below.refl _ _⟩
 · have hpos:=List.length_pos_iff.2 h0
   obtain⟨sd,sc,wd,wc,c0,c1,c2,hS,hG⟩:=h.facts;obtain⟨k,hk⟩:∃k,m.length=k+1:=⟨m.length-1,by omega⟩;obtain⟨c,hc⟩:∃c,cs[k]?=some c:=⟨cs[k]'(by omega),List.getElem?_eq_getElem _⟩;obtain⟨g,off,rfl,hg,cx⟩:=hG.num hc;have hl:=hS.len;have HW:Hid (WkAt E w wb base m cs):=h;have HWd:Hid (WkAt E w.drew wb base m cs):=h.below (Below.refl _ w).drew;have hS0:SLn wb g off k (.slice (some ⟨g,off,none⟩) cs.length wc) c w.drew:=⟨c2,cx⟩;have HCC:Hid (cs.getD (m.length-1) 0=c):=by
    show _=_;rw[hk,Nat.add_sub_cancel,List.getD_eq_getElem?_getD,hc];rfl
   have HBW:Hid (Below w.heap.size w w.drew):=(Below.refl _ w).drew;rw[hcs,hk]at hS0;rw[hk]at HRT;(have hkz:((k+1:Nat):Int)-1=(k:Int):=by omega);rw[hkz]at HRT;(have hl2:k+1≤9223372036854775807:=by omega);(have hkz2:(k:Int)<(k:Int)+1:=by omega);clear hG hS c0 c1 c2 cx h hl;go_enter Tryz.func58,Tryz.ntmps58;(go_upto_region 3 with(go_at_call 70;refine(HRT.out _ HW.out).mono ?_;rintro e w1 ⟨rfl,hw1⟩;rw[hw1];clear hw1));refine zAf (S:=SLn wb g off k (.slice (some ⟨g,off,none⟩) (k+1) wc) c) 9 rfl zAn hS0 (fun _=>?_);refine tq4 SLn.facts 0 6 1 7 2 8 3 9 ?_;simp only[sZa,sZb,sZc];refine tq SLn.facts 4 10 ?_;simp only[sZa,sZb,sZc];refine oc 5 w.drew 11 70 #[.pointer (some ⟨wb,0,none⟩)] ?_;refine(HRT.out _ HWd.out).mono ?_;rintro e w1 ⟨rfl,hw1⟩;subst hw1;refine⟨_,rfl,hS0,fun _=>?_⟩;simp only[sZa,sZb,sZc];refine tq2 SLn.facts 6 12 7 13 ?_;simp only[sZa,sZb,sZc];refine tq SLn.facts 8 2 ?_;simp only[sZa,sZb,sZc];clear hkz2;refine wpAnyH_done (by kernel_rfl) ?_ _;clear hS0;go_wp2;go_ret;exact⟨by rw[HCC.out];rfl,HBW.out⟩
structure SS(ab bb:Nat)(s t:RSt)(va vb:Value)(w:World):Prop where
 a:w.heap[ab]?=some (.cells #[.bool s.final,.int .i64 s.out,va] 91)
 b:w.heap[bb]?=some (.cells #[.bool t.final,.int .i64 t.out,vb] 91)
theorem SS.facts{ab bb:Nat}{s t:RSt}{va vb:Value}{w:World}(h:SS ab bb s t va vb w):w.cell? ⟨ab,0,none⟩=some (.bool s.final)∧w.cell? ⟨ab,1,none⟩=some (.int .i64 s.out)∧w.cell? ⟨ab,2,none⟩=some va∧w.cell? ⟨bb,0,none⟩=some (.bool t.final)∧w.cell? ⟨bb,1,none⟩=some (.int .i64 t.out)∧w.cell? ⟨bb,2,none⟩=some vb:=
 ⟨by simp[World.cell?,h.a],by simp[World.cell?,h.a],by simp[World.cell?,h.a],by simp[World.cell?,h.b],by simp[World.cell?,h.b],by simp[World.cell?,h.b]⟩
theorem SS.below{ab bb:Nat}{s t:RSt}{va vb:Value}{w w':World}(h:SS ab bb s t va vb w)(hb:Below w.heap.size w w'):SS ab bb s t va vb w':=⟨(hb.block ab (Array.getElem?_eq_some_iff.1 h.a).1).trans h.a,(hb.block bb (Array.getElem?_eq_some_iff.1 h.b).1).trans h.b⟩
theorem zDi(E:Nat)(s t:RSt)(va vb:Value)(w:World)(ha:ArcsAt E w va s.arcs)(hb:ArcsAt E w vb t.arcs)(hE:E≤w.heap.size)(hs:s.arcs.length≤1114112)(ht:t.arcs.length≤1114112):
 Calls Tryz.prog 147 #[.agg #[.bool s.final,.int .i64 s.out,va],.agg #[.bool t.final,.int .i64 t.out,vb]] w fun e w'=>e = .returned (.int .i64 (cmpS s t))∧Gr w w':=by
 obtain⟨ad,cap,rfl⟩:=ha.shape;obtain⟨bd,bcap,rfl⟩:=hb.shape;have HH1:Hid (∀W,Calls Tryz.prog 172 #[.agg #[.bool s.final,.int .i64 s.out,.slice ad s.arcs.length cap]] W fun e w'=>e = .returned (.int .u64 (zBw s))∧Gr W w'):=fun W=>zQy s ad cap W hs
 have HH2:Hid (∀W,Calls Tryz.prog 172 #[.agg #[.bool t.final,.int .i64 t.out,.slice bd t.arcs.length bcap]] W fun e w'=>e = .returned (.int .u64 (zBw t))∧Gr W w'):=fun W=>zQy t bd bcap W ht
 have HCF:Hid (∀W,Gr w W→Calls Tryz.prog 174 #[.slice ad s.arcs.length cap,.slice bd t.arcs.length bcap,.func (.func 175) #[] #[]] W fun e w'=>e = .returned (.int .i64 (cmpL s.arcs t.arcs))∧Gr W w'):=fun W hW=>zIb E _ _ _ _ W (ha.below (hW.bel.mono hE)) (hb.below (hW.bel.mono hE)) (Nat.le_trans hE hW.bel.size)
 have HU:Hid (∀W,Calls Tryz.prog 171 #[.int .u64 (zBw s),.int .u64 (zBw t)] W fun e w'=>e = .returned (.int .i64 (cmpI (zBw s) (zBw t)))∧w'=W):=fun W=>cmpU_any _ _ W
 have HO:Hid (∀W,Calls Tryz.prog 173 #[.int .i64 s.out,.int .i64 t.out] W fun e w'=>e = .returned (.int .i64 (cmpI s.out t.out))∧w'=W):=fun W=>zLb _ _ W
 obtain⟨ab,hab⟩:∃ab,ab=w.heap.size:=⟨_,rfl⟩;obtain⟨bb,hbb⟩:∃bb,bb=w.heap.size+1:=⟨_,rfl⟩;generalize s.arcs.length=na at *;generalize t.arcs.length=nb at *;obtain⟨W,hW⟩:∃W,W=(w.alloc (.cells #[.bool s.final,.int .i64 s.out,.slice ad na cap] 91)).alloc (.cells #[.bool t.final,.int .i64 t.out,.slice bd nb bcap] 91):=⟨_,rfl⟩;have HG:Hid (Gr w W):=by show Gr w W;rw[hW];exact((Gr.refl w).alloc _).alloc _
 have hS:SS ab bb s t (.slice ad na cap) (.slice bd nb bcap) W:=by
  constructor
  · rw[hW,(MapKept.heap_alloc _ _).2 ab (by rw[hab];simp),hab]
    exact zAb _ _
  · have e:(w.alloc (.cells #[.bool s.final,.int .i64 s.out,.slice ad na cap] 91)).heap.size=bb:=by rw[hbb];simp
    rw[hW,←e];exact zAb _ _
 have hS0:SS ab bb s t (.slice ad na cap) (.slice bd nb bcap) W.drew:=hS.below (Below.refl _ W).drew;have HCS:Hid (cmpS s t=if cmpH s t≠0 then cmpH s t else cmpL s.arcs t.arcs):=rfl;have HCH:Hid (cmpH s t=orI [cmpI (zBw s) (zBw t),cmpI s.out t.out]):=rfl;generalize cmpL s.arcs t.arcs=CL at *;generalize zBw s=h1 at *;generalize zBw t=h2 at *;generalize cmpH s t=CH at *;generalize cmpS s t=CS at *;generalize cmpI h1 h2=c1 at *;generalize cmpI s.out t.out=c2 at *;go_enter Tryz.func147,Tryz.ntmps147;go_upto_region 1 with fail
 rw[←hbb,←hab,←hW];clear hbb hab hW hS ha hb;refine zAf (S:=SS ab bb s t (.slice ad na cap) (.slice bd nb bcap)) 13 rfl zAn hS0 (fun _=>?_);refine tq4 SS.facts 0 6 2 8 5 11 6 12 ?_;simp only[sZa,sZb,sZc];refine tq2 SS.facts 7 13 8 14 ?_;simp only[sZa,sZb,sZc];refine oc 1 W.drew 7 172 #[.agg #[.bool s.final,.int .i64 s.out,.slice ad na cap]] ?_;refine(HH1.out _).mono ?_;rintro e w1 ⟨rfl,hg1⟩;have hS1:=hS0.below hg1.bel;have HG1:Hid (Gr w w1):=(HG.out.drew).trans hg1;refine⟨_,rfl,hS1,fun _=>?_⟩;simp only[sZa,sZb,sZc];refine oc 3 w1 9 172 #[.agg #[.bool t.final,.int .i64 t.out,.slice bd nb bcap]] ?_;refine(HH2.out _).mono ?_;rintro e w2 ⟨rfl,hg2⟩;have hS2:=hS1.below hg2.bel;have HG2:Hid (Gr w w2):=HG1.out.trans hg2;refine⟨_,rfl,hS2,fun _=>?_⟩;simp only[sZa,sZb,sZc];refine oc 4 w2 10 171 #[.int .u64 h1,.int .u64 h2] ?_;refine(HU.out _).mono ?_;rintro e w3 ⟨rfl,hw3⟩;rw[hw3];refine⟨_,rfl,hS2,fun _=>?_⟩;simp only[sZa,sZb,sZc];refine oc 9 w2 15 173 #[.int .i64 s.out,.int .i64 t.out] ?_;refine(HO.out _).mono ?_;rintro e w4 ⟨rfl,hw4⟩;rw[hw4];refine⟨_,rfl,hS2,fun _=>?_⟩;simp only[sZa,sZb,sZc];obtain⟨W5,hW5⟩:∃W5,W5=w2.alloc (.cells #[.int .i64 c1,.int .i64 c2] 3):=⟨_,rfl⟩;have HG5:Hid (Gr w W5):=by show Gr w W5;rw[hW5];exact HG2.out.alloc _
 have hn5:W5.heap[w2.heap.size]?=some (.cells #[.int .i64 c1,.int .i64 c2] 3):=by rw[hW5];exact zAb _ _
 have hS5:SS ab bb s t (.slice ad na cap) (.slice bd nb bcap) W5:=by rw[hW5];exact hS2.below ((Below.refl _ _).alloc (Nat.le_refl _) _)
 have h5:=or_any w2.heap.size 2 2 [c1,c2] W5 rfl (by decide) (fun i z hi=>by
  match i,hi with
  |0,hi=>simp at hi;subst hi;simp[World.cell?,hn5]
  |1,hi=>simp at hi;subst hi;simp[World.cell?,hn5]
  |k+2,hi=>simp at hi)
 rw[←HCH.out]at h5;refine zAo (i:=10) (v := .slice (some ⟨w2.heap.size,0,none⟩) 2 2) (w':=W5) 16 (by kernel_rfl) rfl rfl (by rfl) (by rw[hW5];go_simp;first|done|exact rfl) hS5 (fun _=>?_);simp only[sZa,sZb,sZc];refine oc 11 W5 17 170 #[.slice (some ⟨w2.heap.size,0,none⟩) 2 2] ?_;refine h5.mono ?_;rintro e w6 ⟨rfl,hw6⟩;rw[hw6];refine⟨_,rfl,hS5,fun _=>?_⟩;simp only[sZa,sZb,sZc];refine zAo (i:=12) (v := .int .i64 CH) (w':=W5) 5 (by kernel_rfl) rfl rfl (by rfl) (by go_simp;first|done|exact rfl) hS5 (fun _=>?_);simp only[sZa,sZb,sZc];refine wpAnyH_done (by kernel_rfl) ?_ _;obtain⟨q0,q1,q2,q3,q4,q5⟩:=hS5.facts;clear hW5 hn5 hw3 hw4 hw6 hS5;by_cases hc:CH=0
 · subst hc
   have HF:Hid (CS=CL):=HCS.out;go_wp2_with (go_at_call 174;refine(HCF.out _ HG5.out).mono ?_;rintro e w8 ⟨rfl,hg8⟩);go_ret;exact⟨by rw[HF.out];rfl,HG5.out.trans hg8⟩
 · have HF:Hid (CS=CH):=by show _=_;rw[HCS.out,if_pos hc]
   have h1b:(CH==0)=false:=beq_eq_false_iff_ne.2 hc;(have h1n:(CH != 0)=true:=by simp[bne,h1b]);go_wp2;go_ret;exact⟨by rw[HF.out];rfl,HG5.out⟩
end
section
open Go.RowKit Go.Shelf Nums Fm Pk
set_option maxRecDepth 1000000
shelf_lay_g SlLaysE0.n41 Slgn 41 at Tryz 145 as cloneSt
shelf_lay_g SlLaysF0.n6 Slsf 6 at Tryz 146 as sortSt
structure StX(E:Nat)(w:World)(xss:List (List Value))(m:List RSt):Prop where
 len:xss.length=m.length
 all:∀(i:Nat) (s:RSt),m[i]?=some s→∃va,xss[i]?=some [.bool s.final,.int .i64 s.out,va]∧ArcsAt E w va s.arcs
 sml:∀s∈m,s.arcs.length≤1114112
theorem StX.below{E:Nat}{w w':World}{xss:List (List Value)}{m:List RSt}(h:StX E w xss m)(hb:Below E w w'):StX E w' xss m:=⟨h.len,fun i s hi=>by obtain⟨va,e1,e2⟩:=h.all i s hi;exact⟨va,e1,e2.below hb⟩,h.sml⟩
theorem StX.cells{E:Nat}{w:World}{xss:List (List Value)}{m:List RSt}(h:StX E w xss m):∀x∈xss,zGr 3 x:=fun x hx=>by
 obtain⟨i,hi,rfl⟩:=List.getElem_of_mem hx;obtain⟨s,hs⟩:∃s,m[i]?=some s:=⟨m[i]'(by have:=h.len;omega),List.getElem?_eq_getElem _⟩;obtain⟨va,e1,e2⟩:=h.all i s hs;obtain⟨ad,cap,rfl⟩:=e2.shape;rw[List.getElem?_eq_getElem hi]at e1;rw[Option.some.inj e1];exact⟨rfl,by simp[Value.oneCell']⟩
theorem zOs:∀(xss:List (List Value)),(∀x∈xss,x.length=3)→∀(j:Nat) (u:Value),xss.flatten[j]?=some u→∃i c x,j=i*3+c∧xss[i]?=some x∧x[c]?=some u
 |[],_,j,u,h=>by simp at h
 |y::r,hk,j,u,h=>by
  have hy:=hk y (by simp);rw[List.flatten_cons]at h;by_cases hj:j<3
  · rw[List.getElem?_append_left (by omega)]at h
    exact⟨0,j,y,by omega,rfl,h⟩
  · rw[List.getElem?_append_right (by omega),hy]at h
    obtain⟨i,c,x,e,h1,h2⟩:=zOs r (fun x hx=>hk x (by simp[hx])) (j-3) u h;exact⟨i+1,c,x,by omega,by simpa using h1,h2⟩
theorem zH6:∀(xss:List (List Value)),(∀x∈xss,x.length=3)→xss.flatten.length=xss.length*3
 |[],_=>rfl
 |y::r,hk=>by
  rw[List.flatten_cons,List.length_append,zH6 r (fun x hx=>hk x (by simp[hx])),hk y (by simp),List.length_cons];omega
theorem zSr(E:Nat)(w:World)(xss:List (List Value))(m:List RSt)(vs:Value)(h:GRow E 3 w vs xss)(hX:StX E w xss m)(h0:m≠[])(hm:m.length≤1048576):
 Calls Tryz.prog 145 #[vs] w fun e w'=>∃g cap,e = .returned (.slice (some ⟨g,0,none⟩) m.length cap)∧GOwn 91 3 w.heap.size w' (.slice (some ⟨g,0,none⟩) m.length cap) xss∧Below w.heap.size w w':=by
 obtain⟨z,hz,hzs⟩:=rtyS.inf;obtain⟨i,hi,hz0,hz1,hz2⟩:=info_parts hz;have hsz:∀w,(Go.sizeOf 91).run Tryz.prog w = .ok 3 w:=fun w=>by simp[sizeOf,typeInfo,hi,hz1,Result.andThen]
 have hcl:=hX.cells;have hl3:∀x∈xss,x.length=3:=fun x hx=>(hcl x hx).1
 have hpos:=List.length_pos_iff.2 h0;have hlen:=hX.len;obtain⟨ad,cap,rfl,hc⟩:=h.ex;obtain⟨g,off,rfl,hg,hx⟩:=hc (by omega);have hcell:∀(j:Nat) u,xss.flatten[j]?=some u→w.cell? ⟨g,off+j,none⟩=some u:=fun j u hj=>by
  obtain⟨i,c,x,rfl,h1,h2⟩:=zOs xss hl3 j u hj;have:=hx i c x u h1 h2
  rwa [Nat.add_assoc]at this
 have hone:∀u∈xss.flatten,u.oneCell'=true:=fun u hu=>by
  obtain⟨x,hx,hux⟩:=List.mem_flatten.1 hu;exact(hcl x hx).2 u hux
 have hcall:Calls Tryz.prog 145 #[.slice (some ⟨g,off,none⟩) xss.length cap] w fun e w'=>∃v',e = .returned v'∧w'.ownsRow w.heap.size 91 3 v' xss.length xss.flatten∧v' ≠ .slice none 0 0∧Below w.heap.size w w':=
  AnyE.slices_Clone cloneSt i z 3 40 hi hz0 hz1 hz2 hzs (by decide) hsz g off xss.length cap xss.flatten w (zH6 xss hl3) (by unfold maxLen;omega) (by omega) hcell hone
 refine hcall.mono ?_;rintro e w' ⟨v',rfl,ho,hne,hb⟩;have hO:GOwn 91 3 w.heap.size w' v' xss:=⟨hcl,ho⟩;obtain⟨g',cap',hv,_⟩:=hO.cell (by omega);subst hv;rw[hlen]at hO ⊢;exact⟨g',cap',rfl,hO,hb⟩
def encS(xss:List (List Value))(i:Nat):List Value:=xss.getD i [.bool false,.int .i64 0,.slice none 0 0]
theorem zEs{E:Nat}{w:World}{xss:List (List Value)}{m:List RSt}(h:StX E w xss m)(i:Nat):∃va,encS xss i=[.bool (m.getD i zS).final,.int .i64 (m.getD i zS).out,va]∧ArcsAt E w va (m.getD i zS).arcs∧(m.getD i zS).arcs.length≤1114112∧va.oneCell'=true:=by
 cases hs:m[i]? with
 |none=>
  have hx:xss[i]?=none:=List.getElem?_eq_none (by have:=h.len;have:=List.getElem?_eq_none_iff.1 hs;omega);rw[encS,List.getD_eq_getElem?_getD,hx,List.getD_eq_getElem?_getD,hs];exact⟨_,rfl,⟨⟨_,_,rfl,fun h=>by simp[zS]at h⟩,fun a ha=>by simp[zS]at ha,by simp[zS]⟩,by simp[zS],rfl⟩
 |some s=>
  obtain⟨va,e1,e2⟩:=h.all i s hs;rw[encS,List.getD_eq_getElem?_getD,e1,List.getD_eq_getElem?_getD,hs];obtain⟨ad,cap,hv⟩:=e2.shape;exact⟨va,rfl,e2,h.sml s (List.mem_of_getElem? hs),by rw[hv];rfl⟩
theorem sortFar{enc:Nat→List Value}{w:World}{blk off q:Nat}{d:Array Nat}{os:Array Obj}{k:Nat}(hk:k<w.heap.size)(hne:k≠blk):(sortWorldK enc 3 w blk off q d os).heap[k]?=w.heap[k]?:=by
 unfold sortWorldK Go.Sort.grow Go.Sort.putRowK Go.Sort.putRow Go.Sort.mapBlock;simp only;rw[Array.getElem?_append_left (by simpa[Go.Sort.ahead]using hk),Array.getElem?_modify,if_neg (fun e=>hne e.symm)];rfl
theorem zL6{enc:Nat→List Value}{w:World}{blk off q:Nat}{d:Array Nat}{os:Array Obj}{B:Nat}(hB:B≤blk)(hBw:B≤w.heap.size):Below B w (sortWorldK enc 3 w blk off q d os):=by
 refine⟨rfl,rfl,rfl,?_,fun k hk=>sortFar (by omega) (by omega)⟩;unfold sortWorldK Go.Sort.grow Go.Sort.putRowK Go.Sort.putRow Go.Sort.mapBlock;simp[Go.Sort.ahead]
theorem zTw(E B:Nat)(w:World)(xss:List (List Value))(m:List RSt)(g cap:Nat)(hO:GOwn 91 3 B w (.slice (some ⟨g,0,none⟩) m.length cap) xss)(hX:StX E w xss m)(hEB:E≤B)(hBw:B≤w.heap.size)(h0:m≠[])(hm:m.length≤1048576):
 Calls Tryz.prog 146 #[.slice (some ⟨g,0,none⟩) m.length cap,.func (.func 147) #[] #[]] w fun e w'=>e = .returned (.tuple #[])∧∃d:Array Nat,d.size=m.length∧d.toList.Perm (List.range m.length)∧Go.Sort.SortedIn (ltOf (cfS m)) 0 m.length d∧Go.Sort.HoldsK (encS xss) 3 w' g 0 d∧Below B w w':=by
 have hlen:=hX.len;have hpos:=List.length_pos_iff.2 h0;have eg:∀args w,(callFunc 147 args).run Tryz.prog w = .ok (.enter 147 args) w:=enters_of Tryz.func147 (by kernel_rfl) rfl;have hk:∀x,(encS xss x).length=3:=fun x=>by obtain⟨va,e,_⟩:=zEs hX x;rw[e];rfl
 have h1:∀x,∀v∈encS xss x,v.oneCell'=true:=fun x v hv=>by
  obtain⟨va,e,_,_,ho⟩:=zEs hX x;rw[e]at hv;simp only[List.mem_cons,List.not_mem_nil,or_false]at hv;rcases hv with rfl|rfl|rfl
  · rfl
  · rfl
  · exact ho
 obtain⟨hg,cur,hblk⟩:=hO.block (g:=g) rfl;have hgw:=(Array.getElem?_eq_some_iff.1 hblk).1;have hH:Go.Sort.HoldsK (encS xss) 3 w g 0 (Array.range m.length):=by
  obtain⟨g',cap',e,_,_,_,hc⟩:=hO.cell (by omega);simp only[Value.slice.injEq,Option.some.injEq,Addr.mk.injEq,and_true]at e;have eg':g=g':=e.1;subst eg';intro t ht;have ht2:t<m.length*3:=by simpa using ht
  obtain⟨i,j,rfl,hj⟩:∃i j,t=i*3+j∧j<3:=⟨t/3,t%3,by omega,by omega⟩;have hi:i<m.length:=by omega
  have hx:xss[i]?=some (xss[i]'(by omega)):=List.getElem?_eq_getElem _;have hl:=hk i;have he:encS xss i=xss[i]'(by omega):=by rw[encS,List.getD_eq_getElem?_getD,hx];rfl
  rw[he]at hl;refine⟨?_,by simp[World.frozen?,hblk]⟩;rw[Go.Sort.get_flatK _ _ _ _ (by simpa using ht2),show(i*3+j)/3=i by omega,show(i*3+j)%3=j by omega];have el:(Array.range m.length)[i]! = i:=by simp[hi]
  rw[el,he,Nat.zero_add];have hjl:j<(xss[i]'(by omega)).length:=by omega
  rw[getElem!_pos _ j hjl];exact hc i j _ _ hx (List.getElem?_eq_getElem hjl)
 have hcmp:CmpLays Tryz.prog 147 #[] (encS xss) 3 (cfS m) g 0 (Array.range m.length).size w:=fun q os dk _ x y=>by
  obtain⟨va,ea,ha,hla,_⟩:=zEs hX x;obtain⟨vb,eb,hb,hlb,_⟩:=zEs hX y;have hbl:Below E w (sortWorldK (encS xss) 3 w g 0 q dk os):=zL6 (by omega) (by omega);rw[ea,eb];refine(zDi E _ _ va vb _ (ha.below hbl) (hb.below hbl) (Nat.le_trans (by omega) hbl.size) hla hlb).mono ?_;rintro e w' ⟨rfl,hgr⟩;exact⟨rfl,hgr.grown⟩
 have hc:=AnyQ.slices_SortFunc sortSt 3 Tryz.isAgg91 Tryz.sizeOf91 (encS xss) hk h1 (cfS m) (cfS_swo m) 147 #[] g 0 cap (Array.range m.length) w eg hcmp hH hgw (by simp;omega);rw[Array.size_range]at hc;refine hc.mono ?_;rintro e w' ⟨rfl,d,q,os,hp,hs,rfl⟩;obtain⟨hp1,_,hp3⟩:=hp;have hds:d.size=m.length:=by simpa using hp1
 have hsw:SWK (encS xss) 3 w g 0 d (sortWorldK (encS xss) 3 w g 0 q d os):=⟨q,os,rfl⟩;refine⟨rfl,d,hds,?_,hs,hsw.holds hgw hH (by simpa using hds),zL6 hg hBw⟩;have e1:d.extract 0 m.length=d:=by rw[←hds];simp
 have e2:(Array.range m.length).extract 0 m.length=Array.range m.length:=by simp
 rw[e1,e2]at hp3;simpa using hp3
set_option maxRecDepth 1000000
shelf_lay_g SlLaysE0.n41 Slgn 41 at Tryz 107 as cloneAr
theorem zS3(l:List RArc):∀x∈l.map zBk,zGr 3 x:=fun x hx=>by
 obtain⟨a,_,rfl⟩:=List.mem_map.1 hx;exact⟨rfl,by simp[zBk,Value.oneCell']⟩
theorem zSs(E:Nat)(w:World)(l:List RArc)(va:Value)(h:ArcsAt E w va l)(hm:l.length≤1114112):
 Calls Tryz.prog 107 #[va] w fun e w'=>∃v',e = .returned v'∧(∃ad cap,v' = .slice ad l.length cap)∧ArcsAt w'.heap.size w' v' l∧(∀g,v'.ownBlock=some g→w.heap.size≤g∧g<w'.heap.size)∧Below w.heap.size w w':=by
 by_cases h0:l=[]
 · subst h0
   obtain⟨ad,cap,rfl⟩:=h.shape;(have hA:∀w' ad cap,ArcsAt w'.heap.size w' (.slice ad 0 cap) []:=fun w' ad cap=>⟨⟨ad,cap,rfl,fun h=>absurd h (by simp)⟩,fun a ha=>(by cases ha),(by simp)⟩);clear h;have HA:Hid (∀w' ad cap,ArcsAt w'.heap.size w' (.slice ad 0 cap) []):=hA;(have HB:Hid (∀o,Below w.heap.size w (w.alloc o)):=fun o=>(Below.refl _ w).alloc (Nat.le_refl _) o);clear hA;(have heq:∀W,(binOp .eql 89 (.slice ad 0 cap) (.slice none 0 0)).run Tryz.prog W = .ok (.bool ad.isNone) W:=fun W=>Lib.run_eql_slice_nil W _ _ ad 0 cap 0 0 rtyA.und);cases ad with
   |none=>
    go_enter Tryz.func107,Tryz.ntmps107;simp only[Option.isNone_none]at heq;go_wp2;go_ret;exact⟨_,rfl,⟨_,_,rfl⟩,HA.out _ _ _,fun g hg=>(by cases hg),Below.refl _ _⟩
   |some p=>
    go_enter Tryz.func107,Tryz.ntmps107;simp only[Option.isNone_some]at heq;go_wp2;go_ret;exact⟨_,rfl,⟨_,_,rfl⟩,HA.out _ _ _,fun g hg=>(by cases hg;exact⟨Nat.le_refl _,by simp⟩),HB.out _⟩
 · obtain⟨z,hz,hzs⟩:=rtyA.inf
   obtain⟨i,hi,hz0,hz1,hz2⟩:=info_parts hz;(have hsz:∀w,(Go.sizeOf 126).run Tryz.prog w = .ok 3 w:=fun w=>by simp[sizeOf,typeInfo,hi,hz1,Result.andThen]);have hcl:=zS3 l;(have hl3:∀x∈l.map zBk,x.length=3:=fun x hx=>(hcl x hx).1);have hpos:=List.length_pos_iff.2 h0;obtain⟨ad,cap,rfl,hc⟩:=h.row.ex;obtain⟨g,off,rfl,hg,hx⟩:=hc (by rw[List.length_map];exact hpos);have hcell:∀(j:Nat) u,(l.map zBk).flatten[j]?=some u→w.cell? ⟨g,off+j,none⟩=some u:=fun j u hj=>by
    obtain⟨i,c,x,rfl,h1,h2⟩:=zOs (l.map zBk) hl3 j u hj;have:=hx i c x u h1 h2
    rwa [Nat.add_assoc]at this
   have hone:∀u∈(l.map zBk).flatten,u.oneCell'=true:=fun u hu=>by
    obtain⟨x,hx,hux⟩:=List.mem_flatten.1 hu;exact(hcl x hx).2 u hux
   have hlen:(l.map zBk).length=l.length:=List.length_map _
   have hcall:Calls Tryz.prog 107 #[.slice (some ⟨g,off,none⟩) (l.map zBk).length cap] w fun e w'=>∃v',e = .returned v'∧w'.ownsRow w.heap.size 126 3 v' (l.map zBk).length (l.map zBk).flatten∧v' ≠ .slice none 0 0∧Below w.heap.size w w':=
    AnyE.slices_Clone cloneAr i z 3 24 hi hz0 hz1 hz2 hzs (by decide) hsz g off (l.map zBk).length cap (l.map zBk).flatten w (zH6 _ hl3) (by unfold maxLen;omega) (by omega) hcell hone
   refine hcall.mono ?_;rintro e w' ⟨v',rfl,ho,hne,hb⟩;have hO:GOwn 126 3 w.heap.size w' v' (l.map zBk):=⟨hcl,ho⟩;obtain⟨ad',cap',hv,_⟩:=hO.shape;rw[hlen]at hv;exact⟨v',rfl,⟨ad',cap',hv⟩,⟨hO.reads,h.ok,h.len⟩,fun g hg=>⟨(hO.block hg).1,hO.lt hg⟩,hb⟩
theorem ArcsAt.upd{F:Nat→Prop}{E:Nat}{w w':World}{v:Value}{l:List RArc}(h:ArcsAt E w v l)(hu:Upd F w w')(hE:E≤w.heap.size)(hF:∀g,v.ownBlock=some g→¬F g):ArcsAt w'.heap.size w' v l:=by
 obtain⟨ad,cap,rfl,hc⟩:=h.row.ex;refine⟨⟨ad,cap,rfl,fun h0=>?_⟩,h.ok,h.len⟩;obtain⟨g,off,rfl,hg,hx⟩:=hc h0;have hl:=hu.size;exact⟨g,off,rfl,by omega,fun i j x u hi hj=>(World.cell?_of_block (a:=⟨g,off+i*3+j,none⟩) (hu.block g (by omega) (hF g rfl))).trans (hx i j x u hi hj)⟩
theorem zBo{F:Nat→Prop}{w W:World}(h:Upd F w W){b o:Nat}(x:Value)(hb:F b):Upd F w (W.setCell ⟨b,o,none⟩ x):=by
 obtain⟨h1,h2,h3,h4⟩:=zA3 W b o x;exact⟨h1.trans h.os,h2.trans h.tape,h3.trans h.output,by rw[h4];exact h.size,fun k hk hF=>(Below.heap_setCell W ⟨b,o,none⟩ x k (fun e=>hF (e▸hb))).trans (h.block k hk hF)⟩
theorem zSt{tmps:Array Value}{w:World}{qb:Nat}{a b c:Value}(h2:tmps.getD 2 undef = .pointer (some ⟨qb,0,none⟩))(c0:w.cell? ⟨qb,0,none⟩=some a)(c1:w.cell? ⟨qb,1,none⟩=some b)(c2:w.cell? ⟨qb,2,none⟩=some c):(results Tryz.f67 tmps).run Tryz.prog w = .ok (.agg #[a,b,c]) w:=by
 have h2':tmps[2]?.getD undef = .pointer (some ⟨qb,0,none⟩):=by simpa using h2
 simp[results,Tryz.results67,go_sem,h2',c0,c1,c2]
theorem zJp(E:Nat)(w:World)(s:RSt)(va:Value)(h:ArcsAt E w va s.arcs)(hE:E≤w.heap.size)(hm:s.arcs.length≤1114112):
 Calls Tryz.prog 67 #[.agg #[.bool s.final,.int .i64 s.out,va]] w fun e w'=>∃v',e = .returned (.agg #[.bool s.final,.int .i64 s.out,v'])∧(∃ad cap,v' = .slice ad s.arcs.length cap)∧ArcsAt w'.heap.size w' v' s.arcs∧(∀g,v'.ownBlock=some g→w.heap.size≤g∧g<w'.heap.size)∧Below w.heap.size w w':=by
 obtain⟨ad,cap,hva⟩:=h.shape;obtain⟨n,hn⟩:∃n,s.arcs.length=n:=⟨_,rfl⟩;rw[hn]at hva;subst hva;obtain⟨W1,hW1⟩:∃W1,W1=(w.alloc (.cells #[.bool s.final,.int .i64 s.out,.slice ad n cap] 91)).alloc (.cells #[.bool false,.int .i64 0,.slice none 0 0] 91):=⟨_,rfl⟩;have hb1:Below w.heap.size w W1:=by rw[hW1];exact((Below.refl _ w).alloc (Nat.le_refl _) _).alloc (by simp) _
 have hs1:W1.heap.size=w.heap.size+2:=by rw[hW1];simp
 obtain⟨sb,hsb⟩:∃sb,sb=w.heap.size:=⟨_,rfl⟩;obtain⟨rb,hrb⟩:∃rb,rb=w.heap.size+1:=⟨_,rfl⟩;have hn1:W1.heap[sb]?=some (.cells #[.bool s.final,.int .i64 s.out,.slice ad n cap] 91):=by
  rw[hW1,hsb,(MapKept.heap_alloc _ _).2 _ (by simp)];exact zAb _ _
 have hr1:W1.heap[rb]?=some (.cells #[.bool false,.int .i64 0,.slice none 0 0] 91):=by
  have e:rb=(w.alloc (.cells #[.bool s.final,.int .i64 s.out,.slice ad n cap] 91)).heap.size:=by rw[hrb];simp
  rw[hW1,e];exact zAb _ _
 have HC:Hid (Calls Tryz.prog 107 #[.slice ad n cap] W1 fun e w'=>∃v',e = .returned v'∧(∃ad cap,v' = .slice ad s.arcs.length cap)∧ArcsAt w'.heap.size w' v' s.arcs∧(∀g,v'.ownBlock=some g→W1.heap.size≤g∧g<w'.heap.size)∧Below W1.heap.size W1 w'):=zSs E W1 s.arcs _ (h.below (hb1.mono hE)) hm;have c2:W1.cell? ⟨sb,2,none⟩=some (.slice ad n cap):=by simp[World.cell?,hn1]
 have HF:Hid (∀(w2:World) (x:Value),Below W1.heap.size W1 w2→w2.heap[sb]?=some (.cells #[.bool s.final,.int .i64 s.out,.slice ad n cap] 91)∧w2.heap[rb]?=some (.cells #[.bool false,.int .i64 0,.slice none 0 0] 91)):=fun w2 x hb=>⟨(hb.block sb (by omega)).trans hn1,(hb.block rb (by omega)).trans hr1⟩
 have HB1:Hid (Below w.heap.size w W1):=hb1;have HSZ:Hid (W1.heap.size=w.heap.size+2∧sb=w.heap.size∧rb=w.heap.size+1):=⟨hs1,hsb,hrb⟩;have hsr:sb≠rb:=by omega
 clear h hb1 hn1 hr1 hs1;go_enter Tryz.func67,Tryz.ntmps67;go_upto_region 1 with fail
 rw[←hrb,←hsb,←hW1];clear hsb hrb hW1;go_wp2_with (go_at_call 107;refine HC.out.mono ?_;rintro e w2 ⟨v',rfl,⟨ad2,cap2,rfl⟩,hA2,hg2,hb2⟩;obtain⟨k1,k2⟩:=HF.out w2 (.slice none 0 0) hb2;have z1:w2.cell? ⟨sb,0,none⟩=some (.bool s.final):=(by simp[World.cell?,k1]);have z2:w2.cell? ⟨sb,1,none⟩=some (.int .i64 s.out):=(by simp[World.cell?,k1]);have z3:w2.cell? ⟨sb,2,none⟩=some (.slice ad n cap):=(by simp[World.cell?,k1]);have y1:w2.cell? ⟨rb,0,none⟩=some (.bool false):=(by simp[World.cell?,k2]);have y2:w2.cell? ⟨rb,1,none⟩=some (.int .i64 0):=(by simp[World.cell?,k2]);have y3:w2.cell? ⟨rb,2,none⟩=some (.slice none 0 0):=(by simp[World.cell?,k2]);have f1:w2.frozen? ⟨sb,2,none⟩=false:=(by simp[World.frozen?,k1]);have f2:∀o,w2.frozen? ⟨rb,o,none⟩=false:=(fun o=>by simp[World.frozen?,k2]));obtain⟨W6,hW6⟩:∃W6,W6=(((w2.setCell ⟨sb,2,none⟩ (.slice ad2 n cap2)).setCell ⟨rb,0,none⟩ (.bool s.final)).setCell ⟨rb,1,none⟩ (.int .i64 s.out)).setCell ⟨rb,2,none⟩ (.slice ad2 n cap2):=⟨_,rfl⟩;have hu:Upd (fun j=>j=sb∨j=rb) w2 W6:=by
  rw[hW6];exact zBo (zBo (zBo (zBo (Upd.refl _ _) _ (.inl rfl)) _ (.inr rfl)) _ (.inr rfl)) _ (.inr rfl)
 have hr6:W6.heap[rb]?=some (.cells #[.bool s.final,.int .i64 s.out,.slice ad2 n cap2] 91):=by
  have e0:(w2.setCell ⟨sb,2,none⟩ (.slice ad2 n cap2)).heap[rb]?=some (.cells #[.bool false,.int .i64 0,.slice none 0 0] 91):=(Below.heap_setCell w2 ⟨sb,2,none⟩ _ rb (fun e=>hsr e.symm)).trans k2;rw[hW6,zAu (zAu (zAu e0 _) _) _];rfl
 rw[←hW6];obtain⟨hz1,hz2,hz3⟩:=HSZ.out;refine bodyPost_ret (zSt (a := .bool s.final) (b := .int .i64 s.out) (c := .slice ad2 n cap2) rfl (by simp[World.cell?,hr6]) (by simp[World.cell?,hr6]) (by simp[World.cell?,hr6])) rfl ?_;refine⟨_,rfl,⟨_,_,by rw[hn]⟩,?_,fun g hg=>?_,?_⟩
 · rw[hn]at hA2 hg2
   exact hA2.upd hu (Nat.le_refl _) (fun g hg e=>by have:=(hg2 g hg).1;rcases e with e|e<;>omega)
 · rw[hn]at hg2
   have h1:=hg2 g hg;have h2:=hu.size;omega
 · have h1:Below w.heap.size w w2:=HB1.out.trans (hb2.mono HB1.out.size)
   exact h1.trans (hu.below h1.size (fun j e=>by rcases e with e|e<;>omega))
structure CtAt(E:Nat)(w wr:World)(vw:Value)(cs:List Nat):Prop where
 own:GOwn 3 1 w.heap.size wr vw (cs.map zEz)
 bel:Below w.heap.size w wr
theorem CtAt.below{E:Nat}{w wr w':World}{vw:Value}{cs:List Nat}(h:CtAt E w wr vw cs)(hb:Below wr.heap.size wr w'):CtAt E w w' vw cs:=⟨h.own.below hb,h.bel.trans (hb.mono h.bel.size)⟩
def cnt(D:List (List En))(s:St)(j:Nat):Nat:=(if s.final then 1 else 0)+((s.arcs.take j).map fun a=>(D[a.to]?.getD []).length).sum
theorem cnt_snoc{D:List (List En)}{s:St}{j:Nat}{a:Arc}{R:List En}(ha:s.arcs[j]?=some a)(hR:D[a.to]?=some R):cnt D s (j+1)=cnt D s j+R.length:=by
 unfold cnt;rw[List.take_add_one,ha,Option.toList_some,List.map_append,List.sum_append];simp[hR];omega
theorem cnt_le{D:List (List En)}{s:St}(j:Nat):cnt D s j≤(exp D s).length:=by
 rw[zK4];unfold cnt;have:∀(l:List Nat) (j:Nat),(l.take j).sum≤l.sum:=fun l=>by
  induction l with
  |nil=>intro j;simp
  |cons x r ih=>
   intro j;cases j with
   |zero=>simp
   |succ j=>simp only[List.take_succ_cons,List.sum_cons];have:=ih j;omega
 have h2:=this (s.arcs.map fun a=>(D[a.to]?.getD []).length) j;rw[←List.map_take]at h2;omega
theorem zOz(E:Nat)(w:World)(b:List St)(D:List (List En))(hI:Inv D b)(hR:∀R∈D,R.length≤4096)(vs:Value)(h:StsAt E w vs (b.map ofSt))(hE:E≤w.heap.size)(hfew:b.length≤1048576):
 Calls Tryz.prog 68 #[vs] w fun e w'=>∃vw,e = .returned vw∧CtAt E w w' vw (D.map List.length):=by
 obtain⟨ad,cap,rfl⟩:=h.shape;obtain⟨nb,hnb⟩:∃nb,b.length=nb:=⟨_,rfl⟩;have HNB:Hid (b.length=nb):=hnb;have hlm:(b.map ofSt).length=nb:=by rw[List.length_map,hnb]
 have HR:Hid (StsAt E w (.slice ad nb cap) (b.map ofSt)):=by have:=h;rw[hlm]at this;exact this
 have hl:=h.len;obtain⟨cs,hcs⟩:∃cs,D.map List.length=cs:=⟨_,rfl⟩;have HCS:Hid (cs=D.map List.length):=hcs.symm;rw[hlm]at hl ⊢;rw[hcs];clear h hnb hlm hcs;go_enter Tryz.func68,Tryz.ntmps68;go_wp2
 go_loopg [3,5,6,8,11] nb (fun gm s3 _ _ _ s11 wr=>∃(k:Nat) (wd:Option Addr) (nw wc:Nat),s11 = .int .i64 k∧s3 = .slice wd nw wc∧k≤nb∧nb-k≤gm∧Hid (CtAt E w wr (.slice wd nw wc) (cs.take k)))
 case atStart=>exact⟨0,none,0,0,rfl,rfl,Nat.zero_le _,by omega,⟨GOwn.nil _ _ _ _,Below.refl _ _⟩⟩
 case round=>
  obtain⟨k,wd,nw,wc,rfl,rfl,hk,hgm,HCT0⟩:=hrel;by_cases hlt:k<nb
  · have hltz:(k:Int)<(nb:Int):=by omega
    obtain⟨s,hs⟩:∃s,b[k]?=some s:=⟨b[k]'(by have:=HNB.out;omega),List.getElem?_eq_getElem _⟩;have HBN:Hid (b[k]?=some s):=hs;obtain⟨g,off,va,hgd,hg,x0,x1,x2,hA⟩:=HR.out.at (k:=k) (s:=ofSt s) (by rw[List.getElem?_map,hs];rfl);obtain⟨vd,vc,hva⟩:=hA.shape;obtain⟨na,hna⟩:∃na,s.arcs.length=na:=⟨_,rfl⟩;have HNA:Hid (s.arcs.length=na):=hna;(have hna2:(ofSt s).arcs.length=na:=by show(s.arcs.map zAr).length=na;rw[List.length_map,hna]);rw[hna2]at hva;subst hva;subst hgd;have HAA:Hid (ArcsAt E w (.slice vd na vc) (s.arcs.map zAr)):=hA;have hal:=hA.len;rw[hna2]at hal;have hbl:=HCT0.out.bel;have u0:wr.cell? ⟨g,off+k*3,none⟩=some (.bool s.final):=(hbl.cell (p:=⟨g,off+k*3,none⟩) (Nat.lt_of_lt_of_le hg hE)).trans x0;have u1:wr.cell? ⟨g,off+k*3+1,none⟩=some (.int .i64 s.out):=(hbl.cell (p:=⟨g,off+k*3+1,none⟩) (Nat.lt_of_lt_of_le hg hE)).trans x1;have u2:wr.cell? ⟨g,off+k*3+2,none⟩=some (.slice vd na vc):=(hbl.cell (p:=⟨g,off+k*3+2,none⟩) (Nat.lt_of_lt_of_le hg hE)).trans x2;obtain⟨sb,hsb⟩:∃sb,sb=wr.heap.size:=⟨_,rfl⟩;obtain⟨W1,hW1⟩:∃W1,W1=wr.alloc (.cells #[.bool s.final,.int .i64 s.out,.slice vd na vc] 91):=⟨_,rfl⟩;(have hb1:Below wr.heap.size wr W1:=by rw[hW1];exact(Below.refl _ wr).alloc (Nat.le_refl _) _);(have hn1:W1.heap[sb]?=some (.cells #[.bool s.final,.int .i64 s.out,.slice vd na vc] 91):=by rw[hW1,hsb];exact zAb _ _);have HSB:Hid (∀wz,Below W1.heap.size W1 wz→wz.cell? ⟨sb,0,none⟩=some (.bool s.final)∧wz.cell? ⟨sb,1,none⟩=some (.int .i64 s.out)∧wz.cell? ⟨sb,2,none⟩=some (.slice vd na vc)):=fun wz hz=>by
     have h1:=(hz.block sb (Array.getElem?_eq_some_iff.1 hn1).1).trans hn1;exact⟨by simp[World.cell?,h1],by simp[World.cell?,h1],by simp[World.cell?,h1]⟩
    have HCT:Hid (CtAt E w W1 (.slice wd nw wc) (cs.take k)):=HCT0.out.below hb1;have HBW:Hid (Below w.heap.size w W1):=HCT.out.bel;obtain⟨sc0,sc1,sc2⟩:=HSB.out W1 (Below.refl _ _);clear hb1 hn1 hs x0 x1 x2 hA hna hna2 hbl;(go_upto_region 5 with fail);rw[←hsb,←hW1];clear hsb hW1 u0 u1 u2;cases hfin:s.final
    focus
     rw[hfin]at sc0;(have HC0:Hid (cnt D s 0=0):=by show _=_;unfold cnt;rw[hfin];rfl);go_wp2
    rotate_left
    focus
     rw[hfin]at sc0;(have HC0:Hid (cnt D s 0=1):=by show _=_;unfold cnt;rw[hfin];rfl);go_wp2
    all_goals
     go_loopg [6,8,20] na (fun gm s6 _ s20 wr=>∃(j:Nat),s20 = .int .i64 j∧s6 = .int .i64 ((cnt D s j:Nat):Int)∧j≤na∧na-j≤gm∧Hid (CtAt E w wr (.slice wd nw wc) (cs.take k))∧Hid (Below W1.heap.size W1 wr))
     case atStart=>exact⟨0,by go_num,by first|(rw[HC0.out];rfl)|(rw[HC0.out];go_num),Nat.zero_le _,by omega,HCT,Below.refl _ _⟩
     case round=>
      obtain⟨j,rfl,rfl,hj,hgj,HCZ,HBZ⟩:=hrel;clear sc0 sc1 sc2;obtain⟨sc0,sc1,sc2⟩:=HSB.out wr HBZ.out;have hc4:cnt D s j≤4096:=Nat.le_trans (cnt_le j) (hR _ (List.mem_of_getElem? (hI.row k s HBN.out).1));by_cases hjl:j<na
      · have hjz:(j:Int)<(na:Int):=by omega
        obtain⟨a,ha⟩:∃a,s.arcs[j]?=some a:=⟨s.arcs[j]'(by have:=HNA.out;omega),List.getElem?_eq_getElem _⟩;have hat:=(hI.row k s HBN.out).2.1 a (List.mem_of_getElem? ha);obtain⟨R1,hR1⟩:∃R1,D[a.to]?=some R1:=⟨D[a.to]'(by have:=hI.len;have:=HNB.out;omega),List.getElem?_eq_getElem _⟩;have hR4:R1.length≤4096:=hR _ (List.mem_of_getElem? hR1);obtain⟨ga,oa,hva,hga,x0,x1,x2⟩:=((HAA.out.below (HBW.out.mono hE)).below (HBZ.out.mono (Nat.le_trans hE HBW.out.size))).at (k:=j) (a:=zAr a) (by rw[List.getElem?_map,ha];rfl);have d0:wr.cell? ⟨ga,oa+j*3,none⟩=some (.int .i32 a.label):=x0;have d1:wr.cell? ⟨ga,oa+j*3+1,none⟩=some (.int .i64 a.out):=x1;have d2:wr.cell? ⟨ga,oa+j*3+2,none⟩=some (.int .i64 (a.to:Int)):=x2;subst hva;clear x0 x1 x2;obtain⟨ab,hab⟩:∃ab,ab=wr.heap.size:=⟨_,rfl⟩;obtain⟨W6,hW6⟩:∃W6,W6=wr.alloc (.cells #[.int .i32 a.label,.int .i64 a.out,.int .i64 (a.to:Int)] 126):=⟨_,rfl⟩;(have hb6:Below wr.heap.size wr W6:=by rw[hW6];exact(Below.refl _ wr).alloc (Nat.le_refl _) _);(have hn6:W6.heap[ab]?=some (.cells #[.int .i32 a.label,.int .i64 a.out,.int .i64 (a.to:Int)] 126):=by rw[hW6,hab];exact zAb _ _);have HC6:Hid (CtAt E w W6 (.slice wd nw wc) (cs.take k)):=HCZ.out.below hb6;have HB6:Hid (Below W1.heap.size W1 W6):=HBZ.out.trans (hb6.mono HBZ.out.size);obtain⟨gw,ow,hwd,hgw,cw⟩:=HC6.out.own.reads.num (k:=a.to) (c:=R1.length) (by rw[List.getElem?_take_of_lt hat,HCS.out,List.getElem?_map,hR1];rfl);have hnw:nw=k:=by
         obtain⟨_,_,e,_⟩:=HC6.out.own.shape;simp only[Value.slice.injEq,List.length_map,List.length_take]at e;have h1:=hI.len;have h2:=HNB.out;(have h3:cs.length=D.length:=by rw[HCS.out,List.length_map]);omega
        (have htz:(a.to:Int)<(nw:Int):=by omega);(have ka2:W6.cell? ⟨ab,2,none⟩=some (.int .i64 (a.to:Int)):=by simp[World.cell?,hn6]);(have HCN:Hid (((cnt D s j:Nat):Int)+((R1.length:Nat):Int)=((cnt D s (j+1):Nat):Int)):=by show _=_;rw[cnt_snoc ha hR1];omega);obtain⟨cj,hcj⟩:∃cj,cnt D s j=cj:=⟨_,rfl⟩;rw[hcj]at HCN hc4 ⊢;subst hwd;clear hb6 hn6 hgw hga hnw;(go_upto_region 11 with fail);rw[←hab,←hW6];clear hab hW6 d0 d1 d2 sc0 sc1 sc2;go_wp2;go_roundg (na-(j+1));(case measure=>omega);case rel=>exact⟨j+1,by go_num,by rw[HCN.out],by omega,Nat.le_refl _,HC6,HB6⟩
      · have hjn:j=na:=by omega
        subst hjn;(have hjz:¬(j:Int)<(j:Int):=by omega);have HO:Hid (GOwn 3 1 w.heap.size wr (.slice wd nw wc) ((cs.take k).map zEz)):=HCZ.out.own;obtain⟨cj,hcj⟩:∃cj,cnt D s j=cj:=⟨_,rfl⟩;have HCK:Hid (cs.take (k+1)=cs.take k++[cj]):=by
         show _=_;have e1:D[k]?=some (exp D s):=(hI.row k s HBN.out).1;have e2:cs[k]?=some cj:=by
          rw[HCS.out,List.getElem?_map,e1,←hcj];show some (exp D s).length=_;rw[zK4];unfold cnt;rw[←HNA.out,List.take_length]
         rw[List.take_add_one,e2];rfl
        have HLK:Hid (((cs.take k).map zEz).length<1099511627776):=by
         show _<_;rw[List.length_map,List.length_take];have:=HNB.out;omega
        have HBZ2:Hid (Below w.heap.size w wr):=HCZ.out.bel;rw[hcj]at hc4 ⊢;clear hcj;go_wp2_with (at_builtin;refine zC3 rtyN (by rfl) _ _ [.int .i64 (cj:Int)] _ rfl w.heap.size _ _ _ _ rfl HO.out rfl rfl ⟨rfl,by simp[Value.oneCell']⟩ HLK.out HBZ2.out.size ?_;intro v7 w7 ho7 hb7 hg7;obtain⟨a7,n7,c7,hv7⟩:∃a n c,v7=Value.slice a n c:=(by obtain⟨a,c,e,_⟩:=ho7.shape;exact⟨_,_,_,e⟩);subst hv7);go_roundg (nb-(k+1));(case measure=>omega);case rel=>exact⟨k+1,_,_,_,by go_num,rfl,by omega,Nat.le_refl _,⟨by rw[HCK.out,List.map_append];exact ho7,HBZ2.out.trans hb7⟩⟩
  · have hltz:¬(k:Int)<(nb:Int):=by omega
    go_wp2;go_ret;have e:cs.take k=cs:=List.take_of_length_le (by rw[HCS.out,List.length_map];have:=hI.len;have:=HNB.out;omega);exact⟨_,rfl,by rw[←e];exact HCT0.out⟩
end
section
open Go.RowKit Nums Fm
theorem take_sucF{l:List Pr}{k:Nat}{x:Pr}(h:l[k]?=some x):l.take (k+1)=l.take k++[x]:=by
 rw[List.take_add_one,h];rfl
theorem zMx{l:List Pr}{x:Pr}(h:x∈l):Pm.find l x.1≠none:=by
 induction l with
 |nil=>cases h
 |cons y r ih=>
  rw[Pm.find_cons];rcases List.mem_cons.1 h with rfl|h
  · cases Pm.find r x.1<;>simp
  · cases hf:Pm.find r x.1 with
    |none=>exact absurd hf (ih h)
    |some v=>simp
theorem zTb:∀{S:List En} {xs:List Int} {n:Int},wt xs S=some n→(xs,n)∈S
 |[],_,_,h=>by cases h
 |e::r,xs,n,h=>by
  rw[zF7]at h
  split at h
  · rename_i he
    have:e=(xs,n):=Prod.ext he (Option.some.inj h);rw[this];simp
  · exact .tail _ (zTb h)
theorem find_wt{l:List Pr}(hd:DictOk l){s:ByteArray}{xs:List Int}(hs:rs s.data.toList=some xs):Pm.find l s=wt xs (ents l):=by
 cases hf:Pm.find l s with
 |some v=>
  have hm:=Pm.find_mem hf;exact(wt_mem hd.rise (List.mem_map.2 ⟨(s,v),hm,by rw[zCw,hs];rfl⟩)).symm
 |none=>
  cases hw:wt xs (ents l)with
  |none=>rfl
  |some n=>
   exfalso;obtain⟨x,hx,he⟩:=List.mem_map.1 (zTb hw);obtain⟨ys,h1,_⟩:=hd.wd x hx;rw[zCw,h1]at he;have hy:ys=xs:=(Prod.mk.inj he).1;subst hy;have e1:=(zEi h1).2;have e2:=(zEi hs).2;have:x.1=s:=zXc (e1.symm.trans e2);rw[←this]at hf;exact zMx hx hf
end
section
open Go.RowKit Nums Fm Pk
structure SU(g k:Nat)(s t:RSt)(va vb:Value)(w0 w:World):Prop where
 a0:w.cell? ⟨g,k*3,none⟩=some (.bool s.final)
 a1:w.cell? ⟨g,k*3+1,none⟩=some (.int .i64 s.out)
 a2:w.cell? ⟨g,k*3+2,none⟩=some va
 b0:w.cell? ⟨g,(k+1)*3,none⟩=some (.bool t.final)
 b1:w.cell? ⟨g,(k+1)*3+1,none⟩=some (.int .i64 t.out)
 b2:w.cell? ⟨g,(k+1)*3+2,none⟩=some vb
 gr:Gr w0 w
theorem SU.facts{g k:Nat}{s t:RSt}{va vb:Value}{w0 w:World}(h:SU g k s t va vb w0 w):w.cell? ⟨g,k*3,none⟩=some (.bool s.final)∧w.cell? ⟨g,k*3+1,none⟩=some (.int .i64 s.out)∧w.cell? ⟨g,k*3+2,none⟩=some va∧w.cell? ⟨g,(k+1)*3,none⟩=some (.bool t.final)∧w.cell? ⟨g,(k+1)*3+1,none⟩=some (.int .i64 t.out)∧w.cell? ⟨g,(k+1)*3+2,none⟩=some vb:=⟨h.a0,h.a1,h.a2,h.b0,h.b1,h.b2⟩
theorem SU.grow{g k:Nat}{s t:RSt}{va vb:Value}{w0 w w':World}(h:SU g k s t va vb w0 w)(hg:g<w0.heap.size)(hr:Gr w w'):SU g k s t va vb w0 w':=by
 have e:∀j,w'.cell? ⟨g,j,none⟩=w.cell? ⟨g,j,none⟩:=fun j=>hr.bel.cell (p:=⟨g,j,none⟩) (Nat.lt_of_lt_of_le hg h.gr.bel.size)
 exact⟨(e _).trans h.a0,(e _).trans h.a1,(e _).trans h.a2,(e _).trans h.b0,(e _).trans h.b1,(e _).trans h.b2,h.gr.trans hr⟩
theorem zRq(E:Nat)(w:World)(m:List RSt)(vs:Value)(h:StsAt E w vs m)(hE:E≤w.heap.size)(hF:zBg 0 m=true)(hm:m.length≤1048576)(h0:m≠[]):
 Calls Tryz.prog 106 #[vs] w fun e w'=>e = .returned (.bool (decide m.Nodup))∧Below w.heap.size w w':=by
 obtain⟨xss,hR,hxl,hx⟩:=h.ex;have hX:StX E w xss m:=⟨hxl,hx,fun s hs=>by
  obtain⟨i,hi,rfl⟩:=List.getElem_of_mem hs;have:=zHa m 0 i _ hF (List.getElem?_eq_getElem hi);exact(zEo this).2.2⟩
 obtain⟨ad,cap,rfl⟩:=h.shape;have hpos:=List.length_pos_iff.2 h0;obtain⟨n,hn⟩:∃n,m.length=n+1:=⟨m.length-1,by omega⟩;have HN:Hid (m.length=n+1):=hn;have HX:Hid (StX E w xss m):=hX;have HCL:Hid (Calls Tryz.prog 145 #[.slice ad (n+1) cap] w fun e w'=>∃g cap,e = .returned (.slice (some ⟨g,0,none⟩) (n+1) cap)∧GOwn 91 3 w.heap.size w' (.slice (some ⟨g,0,none⟩) (n+1) cap) xss∧Below w.heap.size w w'):=by
  have:=zSr E w xss m _ hR hX h0 hm;rw[hn]at this;exact this
 have HSO:Hid (∀w1 g cap,GOwn 91 3 w.heap.size w1 (.slice (some ⟨g,0,none⟩) (n+1) cap) xss→Below w.heap.size w w1→Calls Tryz.prog 146 #[.slice (some ⟨g,0,none⟩) (n+1) cap,.func (.func 147) #[] #[]] w1 fun e w'=>e = .returned (.tuple #[])∧∃d:Array Nat,d.size=m.length∧d.toList.Perm (List.range m.length)∧Go.Sort.SortedIn (ltOf (cfS m)) 0 m.length d∧Go.Sort.HoldsK (encS xss) 3 w' g 0 d∧Below w.heap.size w1 w'):=fun w1 g cap ho hb=>by
  have:=zTw E w.heap.size w1 xss m g cap (by rw[hn];exact ho) (hX.below (hb.mono hE)) hE hb.size h0 hm;rw[hn]at this ⊢;exact this
 rw[hn]at hm ⊢;clear h hR hxl hx hX hn hF;go_enter Tryz.func106,Tryz.ntmps106;go_upto_region 2 with(go_at_call 145;refine HCL.out.mono ?_;rintro e w1 ⟨g,gc,rfl,ho1,hb1⟩;have HO1:Hid (GOwn 91 3 w.heap.size w1 (.slice (some ⟨g,0,none⟩) (n+1) gc) xss):=ho1;have HB1:Hid (Below w.heap.size w w1):=hb1;clear ho1 hb1)
 go_upto_region 3 with(go_at_call 146;refine(HSO.out w1 g gc HO1.out HB1.out).mono ?_;rintro e w2 ⟨rfl,d,hd1,hd2,hd3,hd4,hb2⟩)
 have hgc:n+1≤gc:=by
  obtain⟨_,c',e,hc⟩:=HO1.out.shape;simp only[Value.slice.injEq]at e;omega
 have hgw:g<w2.heap.size:=Nat.lt_of_lt_of_le (HO1.out.lt (g:=g) rfl) hb2.size;have HBW:Hid (Below w.heap.size w w2):=HB1.out.trans (hb2.mono (Nat.le_refl _));have HD:Hid (d.size=m.length∧d.toList.Perm (List.range m.length)∧Go.Sort.SortedIn (ltOf (cfS m)) 0 m.length d∧Go.Sort.HoldsK (encS xss) 3 w2 g 0 d):=⟨hd1,hd2,hd3,hd4⟩;have HX2:Hid (StX E w2 xss m):=HX.out.below (HBW.out.mono hE);have hgcz:((n:Int)+1)≤(gc:Int):=by omega
 clear hd1 hd2 hd3 hd4 hb2;go_wp2
 all_goals
  go_loopg [4,12] n (fun gm _ s12 wr=>∃(k:Nat),s12 = .int .i64 k∧k≤n∧n-k≤gm∧Hid (∀i,i<k→cfS m d[i]! d[i+1]!≠0)∧Hid (Gr w2 wr))
  case atStart=>exact⟨0,rfl,Nat.zero_le _,by omega,fun i hi=>absurd hi (Nat.not_lt_zero _),Gr.refl _⟩
  case round=>
   obtain⟨k,rfl,hk,hgm,HA,HG⟩:=hrel;by_cases hlt:k<n
   · have hltz:(k:Int)<(n:Int):=by omega
     have hn1:=HN.out;have hds:=HD.out.1;obtain⟨va,ea,haa,hla,_⟩:=zEs HX2.out d[k]!;obtain⟨vb,eb,hbb,hlb,_⟩:=zEs HX2.out d[k+1]!;obtain⟨s,hs⟩:∃s,m.getD d[k]! zS=s:=⟨_,rfl⟩;obtain⟨t,ht⟩:∃t,m.getD d[k+1]! zS=t:=⟨_,rfl⟩;rw[hs]at ea haa hla;rw[ht]at eb hbb hlb;have hcell:∀(i c:Nat),i<d.size→c<3→wr.cell? ⟨g,i*3+c,none⟩=some (encS xss d[i]!)[c]!:=fun i c hi hc=>by
      have:=(HD.out.2.2.2.cell hi hc).1;rw[Nat.zero_add]at this;exact(HG.out.bel.cell (p:=⟨g,i*3+c,none⟩) hgw).trans this
     have hS:SU g k s t va vb w2 wr:=by
      have a0:=hcell k 0 (by omega) (by omega);have a1:=hcell k 1 (by omega) (by omega);have a2:=hcell k 2 (by omega) (by omega);have b0:=hcell (k+1) 0 (by omega) (by omega);have b1:=hcell (k+1) 1 (by omega) (by omega);have b2:=hcell (k+1) 2 (by omega) (by omega);rw[ea]at a0 a1 a2;rw[eb]at b0 b1 b2;exact⟨a0,a1,a2,b0,b1,b2,HG.out⟩
     obtain⟨vd,vc,hva⟩:=haa.shape;obtain⟨ud,uc,hvb⟩:=hbb.shape;obtain⟨na,hna⟩:∃na,s.arcs.length=na:=⟨_,rfl⟩;obtain⟨nb,hnb⟩:∃nb,t.arcs.length=nb:=⟨_,rfl⟩;rw[hna]at hva;rw[hnb]at hvb;subst hva;subst hvb;have hS0:=hS.grow hgw ((Gr.refl wr).drew);have hE2:E≤w2.heap.size:=Nat.le_trans hE HBW.out.size;have hbd:Below E w2 wr.drew:=(HG.out.drew).bel.mono hE2;have HCS:Hid (Calls Tryz.prog 147 #[.agg #[.bool s.final,.int .i64 s.out,.slice vd na vc],.agg #[.bool t.final,.int .i64 t.out,.slice ud nb uc]] wr.drew fun e w'=>e = .returned (.int .i64 (cfS m d[k]! d[k+1]!))∧Gr wr.drew w'):=by
      have:=zDi E s t _ _ wr.drew (haa.below hbd) (hbb.below hbd) (Nat.le_trans hE2 hbd.size) hla hlb;unfold cfS;rw[hs,ht];exact this
     have HS0:Hid (SU g k s t (.slice vd na vc) (.slice ud nb uc) w2 wr.drew):=hS0;(have HK1:Hid (cfS m d[k]! d[k+1]! = 0→¬m.Nodup):=fun h=>dup_adj hds HD.out.2.1 (by omega) h);have HK2:Hid (cfS m d[k]! d[k+1]!≠0→∀i,i<k+1→cfS m d[i]! d[i+1]!≠0):=fun h i hi=>by
      by_cases hik:i=k
      · rw[hik];exact h
      · exact HA.out i (by omega)
     (have hk1:IntKind.i64.wrap ((k:Int)+1)=(k:Int)+1:=by rw[IntKind.wrap_i64];omega);(have hk2:(k:Int)+1<(n:Int)+1:=by omega);(have hk3:(0:Int)≤(k:Int)+1:=by omega);(have hk4:((k:Int)+1).toNat=k+1:=by omega);(have hk5:(k:Int)<(n:Int)+1:=by omega);clear hs ht hcell hS ea eb haa hbb hna hnb hds hn1;generalize cfS m d[k]! d[k+1]! = c at HCS HK1 HK2;(go_upto_region 6 with fail);refine zAf (S:=SU g k s t (.slice vd na vc) (.slice ud nb uc) w2) 11 rfl zAn hS0 (fun _=>?_);refine tq4 SU.facts 0 15 1 16 2 17 3 18 ?_;simp only[sZa,sZb,sZc];refine tq2 SU.facts 4 19 5 20 ?_;simp only[sZa,sZb,sZc];refine tk (i:=6) (v := .int .i64 ((k:Int)+1)) 21 rfl rfl (by kernel_rfl) (fun _ s=>by(have h:=SU.facts s;clear s;go_simp;first|done|exact rfl|simp_all|(simp;omega))) ?_;simp only[sZa,sZb,sZc];refine tq2 SU.facts 7 22 8 23 ?_;simp only[sZa,sZb,sZc];refine oc 9 wr.drew 24 147 #[.agg #[.bool s.final,.int .i64 s.out,.slice vd na vc],.agg #[.bool t.final,.int .i64 t.out,.slice ud nb uc]] ?_;refine HCS.out.mono ?_;rintro e w3 ⟨rfl,hg3⟩;have hS3:=HS0.out.grow hgw hg3;have HG3:Hid (Gr w2 w3):=hS3.gr;refine⟨_,rfl,hS3,fun _=>?_⟩;simp only[sZa,sZb,sZc];by_cases hc:c=0
     · subst hc
       have HF:Hid (decide m.Nodup=false):=decide_eq_false (HK1.out rfl);refine tk (i:=10) (v := .bool true) 25 rfl rfl (by kernel_rfl) (fun _ s=>by(have h:=SU.facts s;clear s;go_simp;first|done|exact rfl|simp_all|(simp;omega))) ?_;simp only[sZa,sZb,sZc];refine wpAnyH_done (by kernel_rfl) ?_ _;go_wp2;go_ret;exact⟨by rw[HF.out];rfl,HBW.out.trans (HG3.out.bel.mono HBW.out.size)⟩
     · have HF:Hid (∀i,i<k+1→cfS m d[i]! d[i+1]!≠0):=HK2.out hc
       have h1b:(c==0)=false:=beq_eq_false_iff_ne.2 hc;refine tk (i:=10) (v := .bool false) 25 rfl rfl (by kernel_rfl) (fun _ s=>by(have h:=SU.facts s;clear s;go_simp;first|done|exact rfl|simp_all|(simp;omega))) ?_;simp only[sZa,sZb,sZc];refine wpAnyH_done (by kernel_rfl) ?_ _;go_wp2;go_roundg (n-(k+1));(case measure=>omega);case rel=>exact⟨k+1,by go_num,by omega,Nat.le_refl _,HF,HG3⟩
   · have hltz:¬(k:Int)<(n:Int):=by omega
     (have hkn:k=n:=by omega);have HF:Hid (decide m.Nodup=true):=by
      refine decide_eq_true (zUr HD.out.1 HD.out.2.1 HD.out.2.2.1 fun i hi=>?_);have:=HN.out;exact HA.out i (by omega)
     go_wp2;go_ret;exact⟨by rw[HF.out];rfl,HBW.out.trans (HG.out.bel.mono HBW.out.size)⟩
end
