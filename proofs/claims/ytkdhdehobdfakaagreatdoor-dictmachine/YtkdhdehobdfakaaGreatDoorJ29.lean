import Derived.Sort.Grow
import Derived.Sort.Statements
import Derived.Shelf.SlSortCmp.Insertion
import Derived.Shelf.SlicesE.Clone
import Derived.Shelf.SlSortCmp.WholeK
import Derived.Ground.SlgnProg
import Derived.Test.YtkdhdehobdfakaaGreatDoorPkOrd
import Derived.Test.YtkdhdehobdfakaaGreatDoorLvLev
set_option maxRecDepth 100000
set_option maxHeartbeats 8000000
namespace Go.Proofs.YtkdhdehobdfakaaGreatDoor
namespace Pk
def cmpI(a b:Int):Int:=if a<b then -1 else if b<a then 1 else 0
def orI:List Int→Int
 |[]=>0
 |c::r=>if c≠0 then c else orI r
def cmpA(x y:RArc):Int:=orI [cmpI x.label y.label,cmpI x.out y.out,cmpI x.to y.to]
def cmpL:List RArc→List RArc→Int
 |[],[]=>0
 |[],_::_ => -1
 |_::_,[]=>1
 |x::xs,y::ys=>if cmpA x y≠0 then cmpA x y else cmpL xs ys
def zBv(s:RSt):Int:=2*s.arcs.length+(if s.final then 1 else 0)
def cmpH(s t:RSt):Int:=orI [cmpI (zBv s) (zBv t),cmpI s.out t.out]
def cmpS(s t:RSt):Int:=if cmpH s t≠0 then cmpH s t else cmpL s.arcs t.arcs
structure Ord3{α:Type}(c:α→α→Int):Prop where
 eq:∀x y,c x y=0↔x=y
 anti:∀x y,c x y<0↔0<c y x
 tr:∀x y z,c x y<0→c y z<0→c x z<0
theorem zF8:Ord3 cmpI:=by
 refine⟨fun x y=>?_,fun x y=>?_,fun x y z=>?_⟩<;>unfold cmpI
 · repeat' split
   all_goals omega
 · repeat' split
   all_goals omega
 · repeat' split
   all_goals omega
theorem Ord3.then{α β γ:Type}{c:α→α→Int}{d:β→β→Int}(hc:Ord3 c)(hd:Ord3 d)(p:γ→α)(q:γ→β)(inj:∀x y,p x=p y→q x=q y→x=y):Ord3 fun x y:γ=>if c (p x) (p y)≠0 then c (p x) (p y)else d (q x) (q y):=by
 have c0:∀x y,c x y=0↔c y x=0:=fun x y=>by rw[hc.eq,hc.eq];exact eq_comm
 refine⟨fun x y=>?_,fun x y=>?_,fun x y z=>?_⟩
 · split
   · rename_i h
     exact⟨fun e=>absurd e h,fun e=>absurd ((hc.eq _ _).2 (congrArg p e)) h⟩
   · rename_i h
     have h':c (p x) (p y)=0:=Decidable.byContradiction h;exact⟨fun e=>inj x y ((hc.eq _ _).1 h') ((hd.eq _ _).1 e),fun e=>(hd.eq _ _).2 (congrArg q e)⟩
 · by_cases h:c (p x) (p y)=0
   · rw[if_neg (fun hn=>hn h),if_neg (fun hn=>hn ((c0 _ _).1 h))]
     exact hd.anti _ _
   · rw[if_pos h,if_pos (fun hn=>h ((c0 _ _).2 hn))]
     exact hc.anti _ _
 · by_cases h1:c (p x) (p y)=0
   · have e1:=(hc.eq _ _).1 h1
     rw[if_neg (fun hn=>hn h1)];by_cases h2:c (p y) (p z)=0
     · have e2:=(hc.eq _ _).1 h2
       rw[if_neg (fun hn=>hn h2),e1,if_neg (fun hn=>hn h2)];exact hd.tr _ _ _
     · rw[if_pos h2,e1,if_pos h2]
       exact fun _ h=>h
   · rw[if_pos h1]
     by_cases h2:c (p y) (p z)=0
     · have e2:=(hc.eq _ _).1 h2
       rw[if_neg (fun hn=>hn h2),←e2,if_pos h1];exact fun h _=>h
     · rw[if_pos h2]
       intro g1 g2;have:=hc.tr _ _ _ g1 g2;rw[if_pos (by omega)];exact this
theorem cmpA_ord:Ord3 cmpA:=by
 have h:=Ord3.then (γ:=RArc) zF8 (Ord3.then (γ:=Int×Int) zF8 zF8 (·.1) (·.2) (fun x y h1 h2=>Prod.ext h1 h2)) (·.label) (fun a=>(a.out,a.to)) (fun x y h1 h2=>by
  cases x;cases y;simp only[Prod.mk.injEq]at h1 h2;rw[h1,h2.1,h2.2])
 have e:cmpA=fun x y:RArc=>if cmpI x.label y.label≠0 then cmpI x.label y.label else if cmpI x.out y.out≠0 then cmpI x.out y.out else cmpI x.to y.to:=by
  funext x y;unfold cmpA orI orI orI orI;by_cases h1:cmpI x.label y.label=0
  · by_cases h2:cmpI x.out y.out=0
    · by_cases h3:cmpI x.to y.to=0<;>simp[h1,h2,h3]
    · simp[h1,h2]
  · simp[h1]
 rw[e];exact h
theorem zX2:∀x y,cmpL x y=0↔x=y
 |[],[]=>by simp[cmpL]
 |[],_::_=>by simp[cmpL]
 |_::_,[]=>by simp[cmpL]
 |x::xs,y::ys=>by
  rw[cmpL];by_cases h:cmpA x y=0
  · rw[if_neg (fun hn=>hn h),zX2 xs ys,(cmpA_ord.eq _ _).1 h]
    simp
  · rw[if_pos h]
    exact⟨fun e=>absurd e h,fun e=>absurd ((cmpA_ord.eq _ _).2 (List.cons.inj e).1) h⟩
theorem zNy:∀x y,cmpL x y<0↔0<cmpL y x
 |[],[]=>by simp[cmpL]
 |[],_::_=>by simp[cmpL]
 |_::_,[]=>by simp[cmpL]
 |x::xs,y::ys=>by
  rw[cmpL,cmpL];have c0:cmpA x y=0↔cmpA y x=0:=by rw[cmpA_ord.eq,cmpA_ord.eq];exact eq_comm
  by_cases h:cmpA x y=0
  · rw[if_neg (fun hn=>hn h),if_neg (fun hn=>hn (c0.1 h))]
    exact zNy xs ys
  · rw[if_pos h,if_pos (fun hn=>h (c0.2 hn))]
    exact cmpA_ord.anti _ _
theorem zX0:∀x y z,cmpL x y<0→cmpL y z<0→cmpL x z<0
 |[],[],_,h,_=>by simp[cmpL]at h
 |[],_::_,[],_,h=>by simp[cmpL]at h
 |[],_::_,_::_,_,_=>by simp[cmpL]
 |_::_,[],_,h,_=>by simp[cmpL]at h
 |_::_,_::_,[],_,h=>by simp[cmpL]at h
 |x::xs,y::ys,z::zs,h1,h2=>by
  rw[cmpL]at h1 h2 ⊢;by_cases g1:cmpA x y=0
  · have e1:=(cmpA_ord.eq _ _).1 g1
    rw[if_neg (fun hn=>hn g1)]at h1;subst e1;by_cases g2:cmpA x z=0
    · rw[if_neg (fun hn=>hn g2)]at h2 ⊢
      exact zX0 xs ys zs h1 h2
    · rw[if_pos g2]at h2 ⊢
      exact h2
  · rw[if_pos g1]at h1
    by_cases g2:cmpA y z=0
    · have e2:=(cmpA_ord.eq _ _).1 g2
      subst e2;rw[if_pos g1];exact h1
    · rw[if_pos g2]at h2
      have:=cmpA_ord.tr _ _ _ h1 h2;rw[if_pos (by omega)];exact this
theorem cmpL_ord:Ord3 cmpL:=⟨zX2,zNy,zX0⟩
theorem cmpS_ord:Ord3 cmpS:=by
 have hh:Ord3 fun x y:Int×Int=>if cmpI x.1 y.1≠0 then cmpI x.1 y.1 else cmpI x.2 y.2:=Ord3.then zF8 zF8 (·.1) (·.2) (fun x y h1 h2=>Prod.ext h1 h2)
 have h:=Ord3.then (γ:=RSt) hh cmpL_ord (fun s=>(zBv s,s.out)) (·.arcs) (fun x y h1 h2=>by
  simp only[Prod.mk.injEq]at h1;obtain⟨h3,h4⟩:=h1;unfold zBv at h3;rw[h2]at h3;cases x with
  |mk f1 o1 a1=>
   cases y with
   |mk f2 o2 a2=>
    simp only at h2 h3 h4;subst h2 h4;cases f1<;>cases f2<;>simp at h3 ⊢<;>omega)
 have e:cmpS=fun s t:RSt=>if (if cmpI (zBv s) (zBv t)≠0 then cmpI (zBv s) (zBv t)else cmpI s.out t.out)≠0 then (if cmpI (zBv s) (zBv t)≠0 then cmpI (zBv s) (zBv t)else cmpI s.out t.out)else cmpL s.arcs t.arcs:=by
  funext s t;have eh:cmpH s t=if cmpI (zBv s) (zBv t)≠0 then cmpI (zBv s) (zBv t)else cmpI s.out t.out:=by
   unfold cmpH orI orI orI;by_cases h1:cmpI (zBv s) (zBv t)=0
   · by_cases h2:cmpI s.out t.out=0<;>simp[h1,h2]
   · simp[h1]
  unfold cmpS;rw[eh]
 rw[e];exact h
end Pk
section
open Go.RowKit Nums Fm Pk
structure Gr(w w':World):Prop where
 bel:Below w.heap.size w w'
 dr:w.drawn≤w'.drawn
theorem Gr.refl(w:World):Gr w w:=⟨Below.refl _ _,Nat.le_refl _⟩
theorem Gr.trans{w w1 w2:World}(h1:Gr w w1)(h2:Gr w1 w2):Gr w w2:=⟨h1.bel.trans (h2.bel.mono h1.bel.size),Nat.le_trans h1.dr h2.dr⟩
theorem Gr.alloc{w w1:World}(h:Gr w w1)(o:Obj):Gr w (w1.alloc o):=⟨h.bel.alloc h.bel.size o,h.dr⟩
theorem Gr.drew{w w1:World}(h:Gr w w1):Gr w w1.drew:=⟨h.bel.drew,Nat.le_trans h.dr (Nat.le_succ _)⟩
theorem Gr.grown{w w':World}(h:Gr w w'):∃q os,w'=Go.Sort.grow (w.drewN q) os:=by
 refine⟨w'.drawn-w.drawn,w'.heap.extract w.heap.size w'.heap.size,?_⟩;have hh:w'.heap=w.heap++w'.heap.extract w.heap.size w'.heap.size:=by
  have hs:=h.bel.size;refine Array.ext ?_ fun i h1 h2=>?_
  · simp;omega
  · by_cases hi:i<w.heap.size
    · rw[Array.getElem_append_left hi]
      have e:=h.bel.block i hi;rw[Array.getElem?_eq_getElem h1,Array.getElem?_eq_getElem hi]at e;exact Option.some.inj e
    · rw[Array.getElem_append_right (by omega),Array.getElem_extract]
      congr 1;omega
 have hd:w'.drawn=w.drawn+(w'.drawn-w.drawn):=by have:=h.dr;omega
 cases w' with
 |mk heap tape drawn os output=>
  have e1:=h.bel.os;have e2:=h.bel.tape;have e3:=h.bel.output;simp only at e1 e2 e3 hh hd;simp only[Go.Sort.grow,World.drewN,World.mk.injEq];exact⟨hh,e2,hd,e1,e3⟩
theorem cmpU_any(x y:Int)(w:World):Calls Tryz.prog 148 #[.int .u64 x,.int .u64 y] w fun e w'=>e = .returned (.int .i64 (cmpI x y))∧w'=w:=by
 unfold cmpI;go_enter Tryz.func148,Tryz.ntmps148;by_cases h1:x<y
 · rw[if_pos h1]
   go_wp2;go_ret;exact⟨rfl,rfl⟩
 · rw[if_neg h1]
   by_cases h2:y<x
   · rw[if_pos h2]
     go_wp2;go_ret;exact⟨rfl,rfl⟩
   · rw[if_neg h2]
     go_wp2;go_ret;exact⟨rfl,rfl⟩
theorem zLv(x y:Int)(w:World):Calls Tryz.prog 150 #[.int .i64 x,.int .i64 y] w fun e w'=>e = .returned (.int .i64 (cmpI x y))∧w'=w:=by
 unfold cmpI;go_enter Tryz.func150,Tryz.ntmps150;by_cases h1:x<y
 · rw[if_pos h1]
   go_wp2;go_ret;exact⟨rfl,rfl⟩
 · rw[if_neg h1]
   by_cases h2:y<x
   · rw[if_pos h2]
     go_wp2;go_ret;exact⟨rfl,rfl⟩
   · rw[if_neg h2]
     go_wp2;go_ret;exact⟨rfl,rfl⟩
theorem zR0(x y:Int)(w:World):Calls Tryz.prog 129 #[.int .i32 x,.int .i32 y] w fun e w'=>e = .returned (.int .i64 (cmpI x y))∧w'=w:=by
 unfold cmpI;go_enter Tryz.func129,Tryz.ntmps129;by_cases h1:x<y
 · rw[if_pos h1]
   go_wp2;go_ret;exact⟨rfl,rfl⟩
 · rw[if_neg h1]
   by_cases h2:y<x
   · rw[if_pos h2]
     go_wp2;go_ret;exact⟨rfl,rfl⟩
   · rw[if_neg h2]
     go_wp2;go_ret;exact⟨rfl,rfl⟩
namespace Pk
theorem orI_at{l:List Int}{k:Nat}{c:Int}(h:l[k]?=some c):orI (l.drop k)=if c≠0 then c else orI (l.drop (k+1)):=by
 obtain⟨hk,rfl⟩:=List.getElem?_eq_some_iff.1 h;rw[List.drop_eq_getElem_cons hk,orI]
end Pk
theorem or_any(g n c:Nat)(l:List Int)(w:World)(hn:l.length=n)(hl:n≤4096)(hc:∀(i:Nat) (x:Int),l[i]?=some x→w.cell? ⟨g,i,none⟩=some (.int .i64 x)):
 Calls Tryz.prog 147 #[.slice (some ⟨g,0,none⟩) n c] w fun e w'=>e = .returned (.int .i64 (orI l))∧w'=w:=by
 have HC:Hid (∀(i:Nat) (x:Int),l[i]?=some x→w.cell? ⟨g,i,none⟩=some (.int .i64 x)):=hc;have HN:Hid (l.length=n):=hn;clear hc hn;go_enter Tryz.func147,Tryz.ntmps147;go_wp2
 go_loopg [5,8] n (fun gm _ s8 wr=>∃(k:Nat),s8 = .int .i64 k∧k≤n∧n-k≤gm∧Hid (orI l=orI (l.drop k))∧wr=w)
 case atStart=>exact⟨0,rfl,Nat.zero_le _,by omega,rfl,rfl⟩
 case round=>
  obtain⟨k,rfl,hk,hgm,HO,rfl⟩:=hrel;by_cases hlt:k<n
  · have hltz:(k:Int)<(n:Int):=by omega
    obtain⟨x,hx⟩:∃x,l[k]?=some x:=⟨l[k]'(by have:=HN.out;omega),List.getElem?_eq_getElem _⟩;have hcx:=HC.out k x hx;have HOA:Hid (orI l=if x≠0 then x else orI (l.drop (k+1))):=HO.out.trans (orI_at hx);clear hx;by_cases h0:x=0
    · subst h0
      have HF:Hid (orI l=orI (l.drop (k+1))):=HOA.out;go_wp2;go_roundg (n-(k+1));(case measure=>omega);case rel=>exact⟨k+1,by go_num,by omega,Nat.le_refl _,HF,rfl⟩
    · have HF:Hid (orI l=x):=by show _=_;rw[HOA.out,if_pos h0]
      have h1b:(x==0)=false:=beq_eq_false_iff_ne.2 h0;(have h1n:(x != 0)=true:=by simp[bne,h1b]);go_wp2;go_ret;exact⟨by rw[HF.out];rfl,rfl⟩
  · have hltz:¬(k:Int)<(n:Int):=by omega
    (have HF:Hid (orI l=0):=by show _=_;rw[HO.out,List.drop_of_length_le (by have:=HN.out;omega)];rfl);go_wp2;go_ret;exact⟨by rw[HF.out];rfl,rfl⟩
structure SA(ab bb:Nat)(x y:RArc)(w:World):Prop where
 a:w.heap[ab]?=some (.cells #[.int .i32 x.label,.int .i64 x.out,.int .i64 x.to] 89)
 b:w.heap[bb]?=some (.cells #[.int .i32 y.label,.int .i64 y.out,.int .i64 y.to] 89)
theorem SA.facts{ab bb:Nat}{x y:RArc}{w:World}(h:SA ab bb x y w):w.cell? ⟨ab,0,none⟩=some (.int .i32 x.label)∧w.cell? ⟨ab,1,none⟩=some (.int .i64 x.out)∧w.cell? ⟨ab,2,none⟩=some (.int .i64 x.to)∧w.cell? ⟨bb,0,none⟩=some (.int .i32 y.label)∧w.cell? ⟨bb,1,none⟩=some (.int .i64 y.out)∧w.cell? ⟨bb,2,none⟩=some (.int .i64 y.to):=
 ⟨by simp[World.cell?,h.a],by simp[World.cell?,h.a],by simp[World.cell?,h.a],by simp[World.cell?,h.b],by simp[World.cell?,h.b],by simp[World.cell?,h.b]⟩
theorem SA.below{ab bb:Nat}{x y:RArc}{w w':World}(h:SA ab bb x y w)(hb:Below w.heap.size w w'):SA ab bb x y w':=⟨(hb.block ab (Array.getElem?_eq_some_iff.1 h.a).1).trans h.a,(hb.block bb (Array.getElem?_eq_some_iff.1 h.b).1).trans h.b⟩
theorem zIp(x y:RArc)(w:World):Calls Tryz.prog 152 #[.agg #[.int .i32 x.label,.int .i64 x.out,.int .i64 x.to],.agg #[.int .i32 y.label,.int .i64 y.out,.int .i64 y.to]] w fun e w'=>e = .returned (.int .i64 (cmpA x y))∧Gr w w':=by
 obtain⟨ab,hab⟩:∃ab,ab=w.heap.size:=⟨_,rfl⟩;obtain⟨bb,hbb⟩:∃bb,bb=w.heap.size+1:=⟨_,rfl⟩;obtain⟨W,hW⟩:∃W,W=(w.alloc (.cells #[.int .i32 x.label,.int .i64 x.out,.int .i64 x.to] 89)).alloc (.cells #[.int .i32 y.label,.int .i64 y.out,.int .i64 y.to] 89):=⟨_,rfl⟩;have HG:Hid (Gr w W):=by show Gr w W;rw[hW];exact((Gr.refl w).alloc _).alloc _
 have hS:SA ab bb x y W:=by
  constructor
  · rw[hW,(MapKept.heap_alloc _ _).2 ab (by rw[hab];simp),hab]
    exact zAb _ _
  · have e:(w.alloc (.cells #[.int .i32 x.label,.int .i64 x.out,.int .i64 x.to] 89)).heap.size=bb:=by rw[hbb];simp
    rw[hW,←e];exact zAb _ _
 have hS0:SA ab bb x y W.drew:=hS.below (Below.refl _ W).drew;have HA:Hid (cmpA x y=orI [cmpI x.label y.label,cmpI x.out y.out,cmpI x.to y.to]):=rfl;have h1:=zR0 x.label y.label W.drew;have h2:=zLv x.out y.out W.drew;have h3:=zLv x.to y.to W.drew;obtain⟨W4,hW4⟩:∃W4,W4=W.drew.alloc (.cells #[.int .i64 (cmpI x.label y.label),.int .i64 (cmpI x.out y.out),.int .i64 (cmpI x.to y.to)] 3):=⟨_,rfl⟩;have HG4:Hid (Gr w W4):=by show Gr w W4;rw[hW4];exact(HG.out.drew).alloc _
 have hn4:W4.heap[W.heap.size]?=some (.cells #[.int .i64 (cmpI x.label y.label),.int .i64 (cmpI x.out y.out),.int .i64 (cmpI x.to y.to)] 3):=by rw[hW4];exact zAb W.drew _
 have hS4:SA ab bb x y W4:=by rw[hW4];exact hS0.below ((Below.refl _ _).alloc (Nat.le_refl _) _)
 have h4:=or_any W.heap.size 3 3 [cmpI x.label y.label,cmpI x.out y.out,cmpI x.to y.to] W4 rfl (by decide) (fun i z hi=>by
  match i,hi with
  |0,hi=>simp at hi;subst hi;simp[World.cell?,hn4]
  |1,hi=>simp at hi;subst hi;simp[World.cell?,hn4]
  |2,hi=>simp at hi;subst hi;simp[World.cell?,hn4]
  |k+3,hi=>simp at hi)
 rw[←HA.out]at h4;generalize cmpA x y=CA at *;generalize cmpI x.label y.label=c1 at *;generalize cmpI x.out y.out=c2 at *;generalize cmpI x.to y.to=c3 at *;go_enter Tryz.func152,Tryz.ntmps152;go_upto_region 1 with fail
 rw[←hbb,←hab,←hW];clear hbb hab hW hS hn4;refine zAh (S:=SA ab bb x y) 18 rfl zAr hS0 (fun _=>?_);refine tq4 SA.facts 0 5 1 6 2 7 3 8 ?_;simp only[sZa,sZb,sZc];refine tq4 SA.facts 5 10 6 11 7 12 8 13 ?_;simp only[sZa,sZb,sZc];refine tq4 SA.facts 10 15 11 16 12 17 13 18 ?_;simp only[sZa,sZb,sZc];refine oc 4 W.drew 9 129 #[.int .i32 x.label,.int .i32 y.label] ?_;refine h1.mono ?_;rintro e w1 ⟨rfl,rfl⟩;refine⟨_,rfl,hS0,fun _=>?_⟩;simp only[sZa,sZb,sZc];refine oc 9 W.drew 14 150 #[.int .i64 x.out,.int .i64 y.out] ?_;refine h2.mono ?_;rintro e w1 ⟨rfl,rfl⟩;refine⟨_,rfl,hS0,fun _=>?_⟩;simp only[sZa,sZb,sZc];refine oc 14 W.drew 19 150 #[.int .i64 x.to,.int .i64 y.to] ?_;refine h3.mono ?_;rintro e w1 ⟨rfl,rfl⟩;refine⟨_,rfl,hS0,fun _=>?_⟩;simp only[sZa,sZb,sZc];refine zAo (i:=15) (v := .slice (some ⟨W.heap.size,0,none⟩) 3 3) (w':=W4) 20 (by kernel_rfl) rfl rfl (by rfl) (by rw[hW4];go_simp;first|done|exact rfl) hS4 (fun _=>?_);simp only[sZa,sZb,sZc];refine oc 16 W4 21 147 #[.slice (some ⟨W.heap.size,0,none⟩) 3 3] ?_;refine h4.mono ?_;rintro e w1 ⟨rfl,hw1⟩;rw[hw1];refine⟨_,rfl,hS4,fun _=>?_⟩;simp only[sZa,sZb,sZc];refine zAo (i:=17) (v := .int .i64 CA) (w':=W4) 4 (by kernel_rfl) rfl rfl (by rfl) (by go_simp;first|done|exact rfl) hS4 (fun _=>?_);simp only[sZa,sZb,sZc];refine wpAnyH_done (by kernel_rfl) ?_ _;go_wp2;go_ret;exact⟨rfl,HG4.out⟩
theorem zRn(s:RSt)(ad:Option Addr)(cap:Nat)(w:World)(hl:s.arcs.length≤1114112):Calls Tryz.prog 149 #[.agg #[.bool s.final,.int .i64 s.out,.slice ad s.arcs.length cap]] w fun e w'=>e = .returned (.int .u64 (zBv s))∧Gr w w':=by
 obtain⟨n,hn⟩:∃n,s.arcs.length=n:=⟨_,rfl⟩;have HH:Hid (zBv s=2*(n:Int)+(if s.final then 1 else 0)):=by show _=_;rw[←hn];rfl
 rw[hn]at hl ⊢;clear hn;have HG:Hid (∀o,Gr w (w.alloc o)):=fun o=>(Gr.refl w).alloc o
 have w1:IntKind.u64.wrap (n:Int)=(n:Int):=by simp[IntKind.wrap,IntKind.bits,IntKind.signed];omega
 have w2:IntKind.u64.wrap (2*(n:Int))=2*(n:Int):=by simp[IntKind.wrap,IntKind.bits,IntKind.signed];omega
 have w3:IntKind.u64.wrap (2*(n:Int)+1)=2*(n:Int)+1:=by simp[IntKind.wrap,IntKind.bits,IntKind.signed];omega
 generalize s.out=so at *;cases hf:s.final with
 |true=>
  rw[hf,if_pos rfl]at HH;go_enter Tryz.func149,Tryz.ntmps149;go_wp2;go_ret;refine⟨?_,HG.out _⟩;rw[HH.out];simp
 |false=>
  rw[hf,if_neg (by decide)]at HH;go_enter Tryz.func149,Tryz.ntmps149;go_wp2;go_ret;refine⟨?_,HG.out _⟩;rw[HH.out];simp
namespace Pk
theorem cmpL_at{xs ys:List RArc}{k:Nat}{x y:RArc}(hx:xs[k]?=some x)(hy:ys[k]?=some y):cmpL (xs.drop k) (ys.drop k)=if cmpA x y≠0 then cmpA x y else cmpL (xs.drop (k+1)) (ys.drop (k+1)):=by
 obtain⟨h1,rfl⟩:=List.getElem?_eq_some_iff.1 hx;obtain⟨h2,rfl⟩:=List.getElem?_eq_some_iff.1 hy;rw[List.drop_eq_getElem_cons h1,List.drop_eq_getElem_cons h2,cmpL]
theorem zX1{xs ys:List RArc}{k:Nat}(hx:k<xs.length)(hy:ys.length≤k):cmpL (xs.drop k) (ys.drop k)=1:=by
 rw[List.drop_eq_getElem_cons hx,List.drop_of_length_le hy,cmpL]
theorem cmpL_end{xs ys:List RArc}{k:Nat}(hx:xs.length≤k):cmpL (xs.drop k) (ys.drop k)=if k<ys.length then -1 else 0:=by
 rw[List.drop_of_length_le hx];by_cases h:k<ys.length
 · rw[List.drop_eq_getElem_cons h,cmpL,if_pos h]
 · rw[List.drop_of_length_le (by omega),cmpL,if_neg h]
end Pk
theorem zIo(E:Nat)(xs ys:List RArc)(va vb:Value)(w:World)(ha:ArcsAt E w va xs)(hb:ArcsAt E w vb ys)(hE:E≤w.heap.size):
 Calls Tryz.prog 151 #[va,vb,.func (.func 152) #[] #[]] w fun e w'=>e = .returned (.int .i64 (cmpL xs ys))∧Gr w w':=by
 obtain⟨ad,cap,rfl⟩:=ha.shape;obtain⟨bd,bcap,rfl⟩:=hb.shape;obtain⟨nx,hnx⟩:∃n,xs.length=n:=⟨_,rfl⟩;obtain⟨ny,hny⟩:∃n,ys.length=n:=⟨_,rfl⟩;have hlx:=ha.len;have hly:=hb.len;have HA:Hid (ArcsAt E w (.slice ad xs.length cap) xs):=ha;have HB:Hid (ArcsAt E w (.slice bd ys.length bcap) ys):=hb;have HNX:Hid (xs.length=nx):=hnx;have HNY:Hid (ys.length=ny):=hny;rw[hnx]at HA hlx ⊢;rw[hny]at HB hly ⊢;clear ha hb hnx hny;go_enter Tryz.func151,Tryz.ntmps151;go_wp2
 go_loopg [7,8,9,10,13] nx (fun gm _ _ _ _ s13 wr=>∃(k:Nat),s13 = .int .i64 k∧k≤nx∧nx-k≤gm∧Hid (cmpL xs ys=cmpL (xs.drop k) (ys.drop k))∧Hid (Gr w wr))
 case atStart=>exact⟨0,rfl,Nat.zero_le _,by omega,rfl,Gr.refl _⟩
 case round=>
  obtain⟨k,rfl,hk,hgm,HO,HG⟩:=hrel;by_cases hlt:k<nx
  · have hltz:(k:Int)<(nx:Int):=by omega
    obtain⟨x,hx⟩:∃x,xs[k]?=some x:=⟨xs[k]'(by have:=HNX.out;omega),List.getElem?_eq_getElem _⟩;obtain⟨g,off,rfl,hg,c0,c1,c2⟩:=(HA.out.below (HG.out.bel.mono hE)).at hx;by_cases hly2:k<ny
    · have hlyz:(k:Int)<(ny:Int):=by omega
      obtain⟨y,hy⟩:∃y,ys[k]?=some y:=⟨ys[k]'(by have:=HNY.out;omega),List.getElem?_eq_getElem _⟩;obtain⟨h,oh,rfl,hh,d0,d1,d2⟩:=(HB.out.below (HG.out.bel.mono hE)).at hy;(have hdA:∀(o:Obj) (j:Nat),(wr.alloc o).cell? ⟨h,j,none⟩=wr.cell? ⟨h,j,none⟩:=fun o j=>((Below.refl _ wr).alloc (Nat.le_refl _) o).cell (p:=⟨h,j,none⟩) (Nat.lt_of_lt_of_le hh (Nat.le_trans hE HG.out.bel.size)));(have d0':=fun o=>(hdA o _).trans d0);(have d1':=fun o=>(hdA o _).trans d1);(have d2':=fun o=>(hdA o _).trans d2);have HOA:Hid (cmpL xs ys=if cmpA x y≠0 then cmpA x y else cmpL (xs.drop (k+1)) (ys.drop (k+1))):=HO.out.trans (cmpL_at hx hy);obtain⟨ab,hab⟩:∃ab,ab=wr.heap.size:=⟨_,rfl⟩;obtain⟨bb,hbb⟩:∃bb,bb=wr.heap.size+1:=⟨_,rfl⟩;obtain⟨W,hW⟩:∃W,W=(wr.alloc (.cells #[.int .i32 x.label,.int .i64 x.out,.int .i64 x.to] 89)).alloc (.cells #[.int .i32 y.label,.int .i64 y.out,.int .i64 y.to] 89):=⟨_,rfl⟩;(have HGW:Hid (Gr w W):=by show Gr w W;rw[hW];exact(HG.out.alloc _).alloc _);have hS:SA ab bb x y W:=by
       constructor
       · rw[hW,(MapKept.heap_alloc _ _).2 ab (by rw[hab];simp),hab]
         exact zAb _ _
       · have e:(wr.alloc (.cells #[.int .i32 x.label,.int .i64 x.out,.int .i64 x.to] 89)).heap.size=bb:=by rw[hbb];simp
         rw[hW,←e];exact zAb _ _
      obtain⟨p0,p1,p2,p3,p4,p5⟩:=hS.facts;have HCA:Hid (Calls Tryz.prog 152 #[.agg #[.int .i32 x.label,.int .i64 x.out,.int .i64 x.to],.agg #[.int .i32 y.label,.int .i64 y.out,.int .i64 y.to]] W fun e w'=>e = .returned (.int .i64 (cmpA x y))∧Gr W w'):=zIp x y W;clear hx hy hdA d0 d1 d2 hS;generalize cmpA x y=c at *;(go_upto_region 7 with fail);rw[←hbb,←hab,←hW];clear hbb hab hW c0 c1 c2 d0' d1' d2';by_cases hc0:c=0
      · subst hc0
        have HF:Hid (cmpL xs ys=cmpL (xs.drop (k+1)) (ys.drop (k+1))):=HOA.out;go_wp2_with (go_at_call 152;refine HCA.out.mono ?_;rintro e w2 ⟨rfl,hg2⟩;have HG2:Hid (Gr W w2):=hg2;clear hg2);go_roundg (nx-(k+1));(case measure=>omega);case rel=>exact⟨k+1,by go_num,by omega,Nat.le_refl _,HF,HGW.out.trans HG2.out⟩
      · have HF:Hid (cmpL xs ys=c):=by show _=_;rw[HOA.out,if_pos hc0]
        have h1b:(c==0)=false:=beq_eq_false_iff_ne.2 hc0;(have h1n:(c != 0)=true:=by simp[bne,h1b]);go_wp2_with (go_at_call 152;refine HCA.out.mono ?_;rintro e w2 ⟨rfl,hg2⟩;have HG2:Hid (Gr W w2):=hg2;clear hg2);go_ret;exact⟨by rw[HF.out];rfl,HGW.out.trans HG2.out⟩
    · have hlyz:¬(k:Int)<(ny:Int):=by omega
      (have HF:Hid (cmpL xs ys=1):=by show _=_;rw[HO.out,zX1 (by have:=HNX.out;omega) (by have:=HNY.out;omega)]);(have HGA:Hid (∀o,Gr w (wr.alloc o)):=fun o=>HG.out.alloc o);clear hx;go_wp2;go_ret;exact⟨by rw[HF.out];rfl,HGA.out _⟩
  · have hltz:¬(k:Int)<(nx:Int):=by omega
    (have hkx:k=nx:=by omega);have HE:Hid (cmpL xs ys=if nx<ny then -1 else 0):=by
     show _=_;rw[HO.out,cmpL_end (by have:=HNX.out;omega),HNY.out,hkx]
    by_cases hyx:nx<ny
    · have hyz:(nx:Int)<(ny:Int):=by omega
      rw[if_pos hyx]at HE;go_wp2;go_ret;exact⟨by rw[HE.out];rfl,HG.out⟩
    · have hyz:¬(nx:Int)<(ny:Int):=by omega
      rw[if_neg hyx]at HE;go_wp2;go_ret;exact⟨by rw[HE.out];rfl,HG.out⟩
def zEi(r:Pk.Reach):List Value:=[.int .i64 r.arcs,.int .i64 r.words,.int .i64 r.weight]
theorem zX8(r:Pk.Reach):zG1 3 (zEi r):=⟨rfl,by simp[zEi,Value.oneCell']⟩
theorem rtyRc:RTy 206 204 3 24:=⟨by kernel_rfl,⟨.agg #[.int .i64 0,.int .i64 0,.int .i64 0],by kernel_rfl,rfl⟩,by decide,by decide⟩
namespace Pk
theorem beh_snoc{l:List RArc}{k:Nat}{a:RArc}(h:l[k]?=some a)(known:List Pk.Reach)(r:Pk.Reach):(l.take (k+1)).foldl (zE6 known) r=zE6 known ((l.take k).foldl (zE6 known) r) a:=by
 rw[List.take_add_one,h,List.foldl_append];rfl
structure KnOk(r:Pk.Reach):Prop where
 a0:0≤r.arcs
 a1:r.arcs≤24
 w0:0≤r.words
 w1:r.words≤4096
 g0:0≤r.weight
 g1:r.weight≤1048576
structure RB(k:Nat)(r:Pk.Reach):Prop where
 a0:0≤r.arcs
 a1:r.arcs≤25
 w0:0≤r.words
 w1:r.words≤1+k*4096
 g0:0≤r.weight
 g1:r.weight≤9223372036854775807
end Pk
structure RcBlk(rb:Nat)(r:Pk.Reach)(w:World):Prop where
 blk:w.heap[rb]?=some (.cells #[.int .i64 r.arcs,.int .i64 r.words,.int .i64 r.weight] 206)
theorem RcBlk.facts{rb:Nat}{r:Pk.Reach}{w:World}(h:RcBlk rb r w):w.cell? ⟨rb,0,none⟩=some (.int .i64 r.arcs)∧w.cell? ⟨rb,1,none⟩=some (.int .i64 r.words)∧w.cell? ⟨rb,2,none⟩=some (.int .i64 r.weight)∧∀o,w.frozen? ⟨rb,o,none⟩=false:=⟨by simp[World.cell?,h.blk],by simp[World.cell?,h.blk],by simp[World.cell?,h.blk],fun o=>by simp[World.frozen?,h.blk]⟩
theorem RcBlk.lt{rb:Nat}{r:Pk.Reach}{w:World}(h:RcBlk rb r w):rb<w.heap.size:=(Array.getElem?_eq_some_iff.1 h.blk).1
theorem RcBlk.below{rb:Nat}{r:Pk.Reach}{w w':World}(h:RcBlk rb r w)(hb:Below w.heap.size w w'):RcBlk rb r w':=⟨(hb.block rb h.lt).trans h.blk⟩
theorem zP1{tmps:Array Value}{w:World}{rb:Nat}{a b c:Value}(h2:tmps.getD 4 undef = .pointer (some ⟨rb,0,none⟩))(c0:w.cell? ⟨rb,0,none⟩=some a)(c1:w.cell? ⟨rb,1,none⟩=some b)(c2:w.cell? ⟨rb,2,none⟩=some c):(results Tryz.f122 tmps).run Tryz.prog w = .ok (.agg #[a,b,c]) w:=by
 have h2':tmps[4]?.getD undef = .pointer (some ⟨rb,0,none⟩):=by simpa using h2
 simp[results,Tryz.results122,go_sem,h2',c0,c1,c2]
theorem RcBlk.set0{rb:Nat}{r:Pk.Reach}{w:World}(h:RcBlk rb r w)(x:Int):RcBlk rb ⟨x,r.words,r.weight⟩ (w.setCell ⟨rb,0,none⟩ (.int .i64 x)):=⟨by rw[zAt h.blk];rfl⟩
theorem RcBlk.set1{rb:Nat}{r:Pk.Reach}{w:World}(h:RcBlk rb r w)(x:Int):RcBlk rb ⟨r.arcs,x,r.weight⟩ (w.setCell ⟨rb,1,none⟩ (.int .i64 x)):=⟨by rw[zAt h.blk];rfl⟩
theorem RcBlk.set2{rb:Nat}{r:Pk.Reach}{w:World}(h:RcBlk rb r w)(x:Int):RcBlk rb ⟨r.arcs,r.words,x⟩ (w.setCell ⟨rb,2,none⟩ (.int .i64 x)):=⟨by rw[zAt h.blk];rfl⟩
theorem RcBlk.other{rb:Nat}{r:Pk.Reach}{w w':World}(h:RcBlk rb r w)(e:w'.heap[rb]?=w.heap[rb]?):RcBlk rb r w':=⟨e.trans h.blk⟩
theorem known_at{E:Nat}{w:World}{kd:Option Addr}{kn kc:Nat}{known:List Pk.Reach}(h:GRow E 3 w (.slice kd kn kc) (known.map zEi)){t:Nat}{T:Pk.Reach}(ht:known[t]?=some T):∃g off,kd=some ⟨g,off,none⟩∧g<E∧w.cell? ⟨g,off+t*3,none⟩=some (.int .i64 T.arcs)∧w.cell? ⟨g,off+t*3+1,none⟩=some (.int .i64 T.words)∧w.cell? ⟨g,off+t*3+2,none⟩=some (.int .i64 T.weight):=by
 obtain⟨ad',cap',hv,hc⟩:=h.ex;simp only[Value.slice.injEq]at hv;have hk:=(List.getElem?_eq_some_iff.1 ht).1;obtain⟨g,off,rfl,hg,hx⟩:=hc (by rw[List.length_map];omega);have e:(known.map zEi)[t]?=some (zEi T):=by rw[List.getElem?_map,ht];rfl
 exact⟨g,off,hv.1,hg,hx t 0 _ _ e rfl,hx t 1 _ _ e rfl,hx t 2 _ _ e rfl⟩
theorem zTx(E:Nat)(w:World)(s:RSt)(va vk:Value)(known:List Pk.Reach)(h:ArcsAt E w va s.arcs)(hk:GRow E 3 w vk (known.map zEi))(hE:E≤w.heap.size)
 (hto:∀a∈s.arcs,0≤a.to∧a.to<known.length∧0≤a.out) (hkn:∀r∈known,KnOk r) (hn:s.arcs.length≤1114112) (hso1:s.out≤9223372036854775807) (hso0:0≤s.out):
 Calls Tryz.prog 122 #[.agg #[.bool s.final,.int .i64 s.out,va],vk] w fun e w'=>e = .returned (.agg #[.int .i64 (behR s known).arcs,.int .i64 (behR s known).words,.int .i64 (behR s known).weight])∧Below w.heap.size w w':=by
 obtain⟨ad,cap,rfl⟩:=h.shape;obtain⟨n,hnn⟩:∃n,s.arcs.length=n:=⟨_,rfl⟩;have HN:Hid (s.arcs.length=n):=hnn;have HR:Hid (ArcsAt E w (.slice ad s.arcs.length cap) s.arcs):=h;have hl:=h.len;rw[hnn]at HR hl hn ⊢;clear h hnn;obtain⟨kd,kc,hvk⟩:=hk.shape;rw[List.length_map]at hvk;subst hvk;obtain⟨kn,hkk⟩:∃kn,known.length=kn:=⟨_,rfl⟩;have HKN:Hid (known.length=kn):=hkk;rw[hkk]at hk hto ⊢;have HK:Hid (GRow E 3 w (.slice kd kn kc) (known.map zEi)):=hk;clear hk hkk;go_enter Tryz.func122,Tryz.ntmps122;obtain⟨r0,hr0⟩:∃r0:Pk.Reach,r0=if s.final then ⟨0,1,s.out⟩else ⟨0,0,0⟩:=⟨_,rfl⟩;have HRR:Hid (behR s known=s.arcs.foldl (zE6 known) r0):=by show _=_;rw[hr0];rfl
 have HRB0:Hid (RB 0 r0):=by
  show RB 0 r0;rw[hr0]
  split
  · exact⟨by simp,by simp,by simp,by simp,by simpa using hso0,by simpa using hso1⟩
  · exact⟨by simp,by simp,by simp,by simp,by simp,by simp⟩
 have HKN2:Hid (∀r∈known,KnOk r):=hkn;cases hf:s.final
 rotate_left
 focus
  go_upto_region 4 with fail
  have e0:r0.arcs=0∧r0.words=1∧r0.weight=s.out:=by rw[hr0,hf];exact⟨rfl,rfl,rfl⟩
  clear hr0 hf;have hobj:Obj.cells #[Value.int IntKind.i64 0,Value.int IntKind.i64 1,Value.int IntKind.i64 s.out] 206=Obj.cells #[.int .i64 r0.arcs,.int .i64 r0.words,.int .i64 r0.weight] 206:=by rw[e0.1,e0.2.1,e0.2.2]
  rw[hobj];clear hobj e0
 rotate_left
 focus
  go_upto_region 4 with fail
  have e0:r0.arcs=0∧r0.words=0∧r0.weight=0:=by rw[hr0,hf];exact⟨rfl,rfl,rfl⟩
  clear hr0 hf;have hobj:Obj.cells #[Value.int IntKind.i64 0,Value.int IntKind.i64 0,Value.int IntKind.i64 0] 206=Obj.cells #[.int .i64 r0.arcs,.int .i64 r0.words,.int .i64 r0.weight] 206:=by rw[e0.1,e0.2.1,e0.2.2]
  have hww:∀o,((w.alloc o).alloc (.cells #[.int .i64 0,.int .i64 0,.int .i64 0] 206)).alloc (.cells #[.int .i64 0,.int .i64 0,.int .i64 0] 206)=((w.alloc o).alloc (.cells #[.int .i64 0,.int .i64 0,.int .i64 0] 206)).alloc (.cells #[.int .i64 r0.arcs,.int .i64 r0.words,.int .i64 r0.weight] 206):=fun o=>congrArg _ hobj
  rw[hww];clear hobj hww e0
 all_goals
  obtain⟨rb,hrb⟩:∃rb,rb=w.heap.size+1+1:=⟨_,rfl⟩;obtain⟨qb,hqb⟩:∃qb,qb=w.heap.size+1:=⟨_,rfl⟩;rw[←hrb,←hqb];have HR0:Hid (∀o,RcBlk rb r0 (((w.alloc o).alloc (.cells #[.int .i64 0,.int .i64 0,.int .i64 0] 206)).alloc (.cells #[.int .i64 r0.arcs,.int .i64 r0.words,.int .i64 r0.weight] 206))):=fun o=>by
   refine⟨?_⟩;(have:((w.alloc o).alloc (.cells #[.int .i64 0,.int .i64 0,.int .i64 0] 206)).heap.size=rb:=by rw[hrb];simp);rw[←this];exact zAb _ _
  have HQ0:Hid (∀o,RcBlk qb ⟨0,0,0⟩ (((w.alloc o).alloc (.cells #[.int .i64 0,.int .i64 0,.int .i64 0] 206)).alloc (.cells #[.int .i64 r0.arcs,.int .i64 r0.words,.int .i64 r0.weight] 206))):=fun o=>by
   refine⟨?_⟩;(have:(w.alloc o).heap.size=qb:=by rw[hqb];simp);rw[(MapKept.heap_alloc _ _).2 qb (by rw[hqb];simp),←this];exact zAb _ _
  have HB0:Hid (∀o,Below w.heap.size w (((w.alloc o).alloc (.cells #[.int .i64 0,.int .i64 0,.int .i64 0] 206)).alloc (.cells #[.int .i64 r0.arcs,.int .i64 r0.words,.int .i64 r0.weight] 206))):=fun o=>(((Below.refl _ w).alloc (Nat.le_refl _) _).alloc (by simp) _).alloc (by simp;omega) _
  have HRQ:Hid (w.heap.size≤rb∧w.heap.size≤qb∧rb≠qb):=⟨by omega,by omega,by omega⟩;clear hrb hqb;go_wp2
  go_loopg [7,8,17] n (fun gm _ _ s17 wr=>∃(k:Nat) (r:Pk.Reach),s17 = .int .i64 k∧k≤n∧n-k≤gm∧Hid ((s.arcs.take k).foldl (zE6 known) r0=r)∧Hid (RB k r)∧Hid (RcBlk rb r wr)∧Hid (RcBlk qb ⟨0,0,0⟩ wr)∧Hid (Below w.heap.size w wr))
  case atStart=>exact⟨0,r0,rfl,Nat.zero_le _,by omega,rfl,HRB0,HR0.out _,HQ0.out _,HB0.out _⟩
  case round=>
   obtain⟨k,r,rfl,hk,hgm,HFO,HRB,HRC,HQC,HB⟩:=hrel;by_cases hlt:k<n
   · have hltz:(k:Int)<(n:Int):=by omega
     obtain⟨x,hx⟩:∃x,s.arcs[k]?=some x:=⟨s.arcs[k]'(by have:=HN.out;omega),List.getElem?_eq_getElem _⟩;obtain⟨hx0,hx1,hx2⟩:=hto x (List.mem_of_getElem? hx);obtain⟨t,ht⟩:∃t:Nat,x.to=(t:Int):=⟨x.to.toNat,by omega⟩;(have htk:t<kn:=by omega);(have htz:(t:Int)<(kn:Int):=by omega);obtain⟨T,hT⟩:∃T,known[t]?=some T:=⟨known[t]'(by have:=HKN.out;omega),List.getElem?_eq_getElem _⟩;obtain⟨T0,T1,T2,T3,T4,T5⟩:=hkn T (List.mem_of_getElem? hT);obtain⟨g,off,rfl,hg,c0,c1,c2⟩:=(HR.out.below (HB.out.mono hE)).at hx;obtain⟨kg,koff,rfl,hkg,d0,d1,d2⟩:=known_at (HK.out.below (HB.out.mono hE)) hT;rw[ht]at c2;(have hdA:∀(o:Obj) (j:Nat),(wr.alloc o).cell? ⟨kg,j,none⟩=wr.cell? ⟨kg,j,none⟩:=fun o j=>((Below.refl _ wr).alloc (Nat.le_refl _) o).cell (p:=⟨kg,j,none⟩) (Nat.lt_of_lt_of_le hkg (Nat.le_trans hE HB.out.size)));(have d0':=fun o=>(hdA o _).trans d0);(have d1':=fun o=>(hdA o _).trans d1);(have d2':=fun o=>(hdA o _).trans d2);have HST:Hid ((s.arcs.take (k+1)).foldl (zE6 known) r0=⟨max r.arcs (T.arcs+1),r.words+T.words,max r.weight (min x.out 1048576+T.weight)⟩):=by
      show _=_;rw[beh_snoc hx,HFO.out];unfold zE6;rw[ht,Int.toNat_natCast,List.getD_eq_getElem?_getD,hT];rfl
     obtain⟨b0,b1,b2,b3,b4,b5⟩:=HRB.out;obtain⟨W2,hW2⟩:∃W2,W2=(wr.alloc (.cells #[.int .i32 x.label,.int .i64 x.out,.int .i64 (t:Int)] 89)).alloc (.cells #[.int .i64 T.arcs,.int .i64 T.words,.int .i64 T.weight] 206):=⟨_,rfl⟩;obtain⟨ab,hab⟩:∃ab,ab=wr.heap.size:=⟨_,rfl⟩;obtain⟨tb,htb⟩:∃tb,tb=wr.heap.size+1:=⟨_,rfl⟩;(have hb2:Below wr.heap.size wr W2:=by rw[hW2];exact((Below.refl _ wr).alloc (Nat.le_refl _) _).alloc (by simp) _);have hA2:W2.heap[ab]?=some (.cells #[.int .i32 x.label,.int .i64 x.out,.int .i64 (t:Int)] 89):=by
      rw[hW2,(MapKept.heap_alloc _ _).2 ab (by rw[hab];simp),hab];exact zAb _ _
     have hT2:RcBlk tb T W2:=by
      refine⟨?_⟩;(have:(wr.alloc (.cells #[.int .i32 x.label,.int .i64 x.out,.int .i64 (t:Int)] 89)).heap.size=tb:=by rw[htb];simp);rw[hW2,←this];exact zAb _ _
     have hrl:=HRC.out.lt;have hne:ab≠rb∧tb≠rb:=⟨by omega,by omega⟩;have hr2:=HRC.out.below hb2;(have ha1:W2.cell? ⟨ab,1,none⟩=some (.int .i64 x.out):=by simp[World.cell?,hA2]);(have ha2:W2.cell? ⟨ab,2,none⟩=some (.int .i64 (t:Int)):=by simp[World.cell?,hA2]);obtain⟨r0',r1',r2',rz⟩:=hr2.facts;obtain⟨t0,t1,t2,tz⟩:=hT2.facts;have HW3:Hid (∀v,((W2.setCell ⟨rb,0,none⟩ (.int .i64 v)).cell? ⟨rb,1,none⟩=some (.int .i64 r.words))∧((W2.setCell ⟨rb,0,none⟩ (.int .i64 v)).frozen? ⟨rb,1,none⟩=false)∧((W2.setCell ⟨rb,0,none⟩ (.int .i64 v)).cell? ⟨tb,1,none⟩=some (.int .i64 T.words))):=fun v=>by
      have h3:=hr2.set0 v;exact⟨h3.facts.2.1,h3.facts.2.2.2 1,(hT2.other (zAc _ _ _ _ hne.2)).facts.2.1⟩
     have HW4:Hid (∀v u,(((W2.setCell ⟨rb,0,none⟩ (.int .i64 v)).setCell ⟨rb,1,none⟩ (.int .i64 u)).cell? ⟨rb,2,none⟩=some (.int .i64 r.weight))∧(((W2.setCell ⟨rb,0,none⟩ (.int .i64 v)).setCell ⟨rb,1,none⟩ (.int .i64 u)).frozen? ⟨rb,2,none⟩=false)∧(((W2.setCell ⟨rb,0,none⟩ (.int .i64 v)).setCell ⟨rb,1,none⟩ (.int .i64 u)).cell? ⟨tb,2,none⟩=some (.int .i64 T.weight))∧(((W2.setCell ⟨rb,0,none⟩ (.int .i64 v)).setCell ⟨rb,1,none⟩ (.int .i64 u)).cell? ⟨ab,1,none⟩=some (.int .i64 x.out))):=fun v u=>by
      have h3:=(hr2.set0 v).set1 u;have h4:((W2.setCell ⟨rb,0,none⟩ (.int .i64 v)).setCell ⟨rb,1,none⟩ (.int .i64 u)).heap[ab]?=W2.heap[ab]?:=(zAc _ _ _ _ hne.1).trans (zAc _ _ _ _ hne.1);exact⟨h3.facts.2.2.1,h3.facts.2.2.2 2,((hT2.other (zAc _ _ _ _ hne.2)).other (zAc _ _ _ _ hne.2)).facts.2.2.1,(World.cell?_of_block (a:=⟨ab,1,none⟩) h4).trans ha1⟩
     have HEND:Hid (∀v u z,v=max r.arcs (T.arcs+1)→u=r.words+T.words→z=max r.weight (min x.out 1048576+T.weight)→Hid (RB (k+1) ⟨max r.arcs (T.arcs+1),r.words+T.words,max r.weight (min x.out 1048576+T.weight)⟩)∧Hid (RcBlk rb ⟨max r.arcs (T.arcs+1),r.words+T.words,max r.weight (min x.out 1048576+T.weight)⟩ (((W2.setCell ⟨rb,0,none⟩ (.int .i64 v)).setCell ⟨rb,1,none⟩ (.int .i64 u)).setCell ⟨rb,2,none⟩ (.int .i64 z)))∧Hid (RcBlk qb ⟨0,0,0⟩ (((W2.setCell ⟨rb,0,none⟩ (.int .i64 v)).setCell ⟨rb,1,none⟩ (.int .i64 u)).setCell ⟨rb,2,none⟩ (.int .i64 z)))∧Hid (Below w.heap.size w (((W2.setCell ⟨rb,0,none⟩ (.int .i64 v)).setCell ⟨rb,1,none⟩ (.int .i64 u)).setCell ⟨rb,2,none⟩ (.int .i64 z)))):=fun v u z h1 h2 h3=>by
      have hq2:=HQC.out.below hb2;(have hqr:qb≠rb:=fun e=>HRQ.out.2.2 e.symm);subst h1 h2 h3;refine⟨⟨by simp only;omega,by simp only;omega,by simp only;omega,by simp only;omega,by simp only;omega,by simp only;omega⟩,(((hr2.set0 _).set1 _).set2 _),(((hq2.other (zAc _ _ _ _ hqr)).other (zAc _ _ _ _ hqr)).other (zAc _ _ _ _ hqr)),?_⟩;exact(((HB.out.trans (hb2.mono HB.out.size)).setCell (p:=⟨rb,0,none⟩) HRQ.out.1 _).setCell (p:=⟨rb,1,none⟩) HRQ.out.1 _).setCell (p:=⟨rb,2,none⟩) HRQ.out.1 _
     have HE1:Hid (RB (k+1) ⟨max r.arcs (T.arcs+1),r.words+T.words,max r.weight (min x.out 1048576+T.weight)⟩):=(HEND.out _ _ _ rfl rfl rfl).1;(have HE2:Hid (∀v u z,v=max r.arcs (T.arcs+1)→u=r.words+T.words→z=max r.weight (min x.out 1048576+T.weight)→Hid (RcBlk rb ⟨max r.arcs (T.arcs+1),r.words+T.words,max r.weight (min x.out 1048576+T.weight)⟩ (((W2.setCell ⟨rb,0,none⟩ (.int .i64 v)).setCell ⟨rb,1,none⟩ (.int .i64 u)).setCell ⟨rb,2,none⟩ (.int .i64 z)))):=fun v u z h1 h2 h3=>(HEND.out v u z h1 h2 h3).2.1);(have HE3:Hid (∀v u z,v=max r.arcs (T.arcs+1)→u=r.words+T.words→z=max r.weight (min x.out 1048576+T.weight)→Hid (RcBlk qb ⟨0,0,0⟩ (((W2.setCell ⟨rb,0,none⟩ (.int .i64 v)).setCell ⟨rb,1,none⟩ (.int .i64 u)).setCell ⟨rb,2,none⟩ (.int .i64 z)))):=fun v u z h1 h2 h3=>(HEND.out v u z h1 h2 h3).2.2.1);(have HE4:Hid (∀v u z,v=max r.arcs (T.arcs+1)→u=r.words+T.words→z=max r.weight (min x.out 1048576+T.weight)→Hid (Below w.heap.size w (((W2.setCell ⟨rb,0,none⟩ (.int .i64 v)).setCell ⟨rb,1,none⟩ (.int .i64 u)).setCell ⟨rb,2,none⟩ (.int .i64 z)))):=fun v u z h1 h2 h3=>(HEND.out v u z h1 h2 h3).2.2.2);clear hx hT hb2 hA2 hT2 hr2 hrl hne hdA d0 d1 d2 HEND;(go_upto_region 8 with fail);rw[←htb,←hab,←hW2];clear hab htb hW2 c0 c1 c2 d0' d1' d2';go_upto_region 9 with fail
     all_goals
      (have e0:=fun v=>(HW3.out v).1);(have e1:=fun v=>(HW3.out v).2.1);(have e2:=fun v=>(HW3.out v).2.2);(go_upto_region 10 with fail);clear e0 e1 e2;(have f0:=fun v u=>(HW4.out v u).1);(have f1:=fun v u=>(HW4.out v u).2.1);(have f2:=fun v u=>(HW4.out v u).2.2.1);(have f3:=fun v u=>(HW4.out v u).2.2.2);go_wp2
      all_goals
       go_roundg (n-(k+1));case measure=>omega
       case rel=>
        exact⟨k+1,_,by go_num,by omega,Nat.le_refl _,HST,HE1,HE2.out _ _ _ (by omega) rfl (by omega),HE3.out _ _ _ (by omega) rfl (by omega),HE4.out _ _ _ (by omega) rfl (by omega)⟩
   · have hltz:¬(k:Int)<(n:Int):=by omega
     have hfin:behR s known=r:=by
      rw[HRR.out,←HFO.out,List.take_of_length_le (by have:=HN.out;omega)]
     have HFIN:Hid (behR s known=r):=hfin;clear hfin;obtain⟨r0',r1',r2',rz⟩:=HRC.out.facts;obtain⟨q0,q1,q2,qz⟩:=HQC.out.facts;go_wp2;(try simp only[Exit.inBlock,Exit.then]);have hq:=((HQC.out.set0 r.arcs).set1 r.words).set2 r.weight;refine bodyPost_ret (zP1 rfl hq.facts.1 hq.facts.2.1 hq.facts.2.2.1) rfl ?_;exact⟨by rw[HFIN.out],((HB.out.setCell (p:=⟨qb,0,none⟩) HRQ.out.2.1 _).setCell (p:=⟨qb,1,none⟩) HRQ.out.2.1 _).setCell (p:=⟨qb,2,none⟩) HRQ.out.2.1 _⟩
structure SS(ab bb:Nat)(s t:RSt)(va vb:Value)(w:World):Prop where
 a:w.heap[ab]?=some (.cells #[.bool s.final,.int .i64 s.out,va] 56)
 b:w.heap[bb]?=some (.cells #[.bool t.final,.int .i64 t.out,vb] 56)
theorem SS.facts{ab bb:Nat}{s t:RSt}{va vb:Value}{w:World}(h:SS ab bb s t va vb w):w.cell? ⟨ab,0,none⟩=some (.bool s.final)∧w.cell? ⟨ab,1,none⟩=some (.int .i64 s.out)∧w.cell? ⟨ab,2,none⟩=some va∧w.cell? ⟨bb,0,none⟩=some (.bool t.final)∧w.cell? ⟨bb,1,none⟩=some (.int .i64 t.out)∧w.cell? ⟨bb,2,none⟩=some vb:=
 ⟨by simp[World.cell?,h.a],by simp[World.cell?,h.a],by simp[World.cell?,h.a],by simp[World.cell?,h.b],by simp[World.cell?,h.b],by simp[World.cell?,h.b]⟩
theorem SS.below{ab bb:Nat}{s t:RSt}{va vb:Value}{w w':World}(h:SS ab bb s t va vb w)(hb:Below w.heap.size w w'):SS ab bb s t va vb w':=⟨(hb.block ab (Array.getElem?_eq_some_iff.1 h.a).1).trans h.a,(hb.block bb (Array.getElem?_eq_some_iff.1 h.b).1).trans h.b⟩
theorem zDk(E:Nat)(s t:RSt)(va vb:Value)(w:World)(ha:ArcsAt E w va s.arcs)(hb:ArcsAt E w vb t.arcs)(hE:E≤w.heap.size)(hs:s.arcs.length≤1114112)(ht:t.arcs.length≤1114112):
 Calls Tryz.prog 126 #[.agg #[.bool s.final,.int .i64 s.out,va],.agg #[.bool t.final,.int .i64 t.out,vb]] w fun e w'=>e = .returned (.int .i64 (cmpS s t))∧Gr w w':=by
 obtain⟨ad,cap,rfl⟩:=ha.shape;obtain⟨bd,bcap,rfl⟩:=hb.shape;have HH1:Hid (∀W,Calls Tryz.prog 149 #[.agg #[.bool s.final,.int .i64 s.out,.slice ad s.arcs.length cap]] W fun e w'=>e = .returned (.int .u64 (zBv s))∧Gr W w'):=fun W=>zRn s ad cap W hs
 have HH2:Hid (∀W,Calls Tryz.prog 149 #[.agg #[.bool t.final,.int .i64 t.out,.slice bd t.arcs.length bcap]] W fun e w'=>e = .returned (.int .u64 (zBv t))∧Gr W w'):=fun W=>zRn t bd bcap W ht
 have HCF:Hid (∀W,Gr w W→Calls Tryz.prog 151 #[.slice ad s.arcs.length cap,.slice bd t.arcs.length bcap,.func (.func 152) #[] #[]] W fun e w'=>e = .returned (.int .i64 (cmpL s.arcs t.arcs))∧Gr W w'):=fun W hW=>zIo E _ _ _ _ W (ha.below (hW.bel.mono hE)) (hb.below (hW.bel.mono hE)) (Nat.le_trans hE hW.bel.size)
 have HU:Hid (∀W,Calls Tryz.prog 148 #[.int .u64 (zBv s),.int .u64 (zBv t)] W fun e w'=>e = .returned (.int .i64 (cmpI (zBv s) (zBv t)))∧w'=W):=fun W=>cmpU_any _ _ W
 have HO:Hid (∀W,Calls Tryz.prog 150 #[.int .i64 s.out,.int .i64 t.out] W fun e w'=>e = .returned (.int .i64 (cmpI s.out t.out))∧w'=W):=fun W=>zLv _ _ W
 obtain⟨ab,hab⟩:∃ab,ab=w.heap.size:=⟨_,rfl⟩;obtain⟨bb,hbb⟩:∃bb,bb=w.heap.size+1:=⟨_,rfl⟩;generalize s.arcs.length=na at *;generalize t.arcs.length=nb at *;obtain⟨W,hW⟩:∃W,W=(w.alloc (.cells #[.bool s.final,.int .i64 s.out,.slice ad na cap] 56)).alloc (.cells #[.bool t.final,.int .i64 t.out,.slice bd nb bcap] 56):=⟨_,rfl⟩;have HG:Hid (Gr w W):=by show Gr w W;rw[hW];exact((Gr.refl w).alloc _).alloc _
 have hS:SS ab bb s t (.slice ad na cap) (.slice bd nb bcap) W:=by
  constructor
  · rw[hW,(MapKept.heap_alloc _ _).2 ab (by rw[hab];simp),hab]
    exact zAb _ _
  · have e:(w.alloc (.cells #[.bool s.final,.int .i64 s.out,.slice ad na cap] 56)).heap.size=bb:=by rw[hbb];simp
    rw[hW,←e];exact zAb _ _
 have hS0:SS ab bb s t (.slice ad na cap) (.slice bd nb bcap) W.drew:=hS.below (Below.refl _ W).drew;have HCS:Hid (cmpS s t=if cmpH s t≠0 then cmpH s t else cmpL s.arcs t.arcs):=rfl;have HCH:Hid (cmpH s t=orI [cmpI (zBv s) (zBv t),cmpI s.out t.out]):=rfl;generalize cmpL s.arcs t.arcs=CL at *;generalize zBv s=h1 at *;generalize zBv t=h2 at *;generalize cmpH s t=CH at *;generalize cmpS s t=CS at *;generalize cmpI h1 h2=c1 at *;generalize cmpI s.out t.out=c2 at *;go_enter Tryz.func126,Tryz.ntmps126;go_upto_region 1 with fail
 rw[←hbb,←hab,←hW];clear hbb hab hW hS ha hb;refine zAh (S:=SS ab bb s t (.slice ad na cap) (.slice bd nb bcap)) 13 rfl zAr hS0 (fun _=>?_);refine tq4 SS.facts 0 6 2 8 5 11 6 12 ?_;simp only[sZa,sZb,sZc];refine tq2 SS.facts 7 13 8 14 ?_;simp only[sZa,sZb,sZc];refine oc 1 W.drew 7 149 #[.agg #[.bool s.final,.int .i64 s.out,.slice ad na cap]] ?_;refine(HH1.out _).mono ?_;rintro e w1 ⟨rfl,hg1⟩;have hS1:=hS0.below hg1.bel;have HG1:Hid (Gr w w1):=(HG.out.drew).trans hg1;refine⟨_,rfl,hS1,fun _=>?_⟩;simp only[sZa,sZb,sZc];refine oc 3 w1 9 149 #[.agg #[.bool t.final,.int .i64 t.out,.slice bd nb bcap]] ?_;refine(HH2.out _).mono ?_;rintro e w2 ⟨rfl,hg2⟩;have hS2:=hS1.below hg2.bel;have HG2:Hid (Gr w w2):=HG1.out.trans hg2;refine⟨_,rfl,hS2,fun _=>?_⟩;simp only[sZa,sZb,sZc];refine oc 4 w2 10 148 #[.int .u64 h1,.int .u64 h2] ?_;refine(HU.out _).mono ?_;rintro e w3 ⟨rfl,hw3⟩;rw[hw3];refine⟨_,rfl,hS2,fun _=>?_⟩;simp only[sZa,sZb,sZc];refine oc 9 w2 15 150 #[.int .i64 s.out,.int .i64 t.out] ?_;refine(HO.out _).mono ?_;rintro e w4 ⟨rfl,hw4⟩;rw[hw4];refine⟨_,rfl,hS2,fun _=>?_⟩;simp only[sZa,sZb,sZc];obtain⟨W5,hW5⟩:∃W5,W5=w2.alloc (.cells #[.int .i64 c1,.int .i64 c2] 3):=⟨_,rfl⟩;have HG5:Hid (Gr w W5):=by show Gr w W5;rw[hW5];exact HG2.out.alloc _
 have hn5:W5.heap[w2.heap.size]?=some (.cells #[.int .i64 c1,.int .i64 c2] 3):=by rw[hW5];exact zAb _ _
 have hS5:SS ab bb s t (.slice ad na cap) (.slice bd nb bcap) W5:=by rw[hW5];exact hS2.below ((Below.refl _ _).alloc (Nat.le_refl _) _)
 have h5:=or_any w2.heap.size 2 2 [c1,c2] W5 rfl (by decide) (fun i z hi=>by
  match i,hi with
  |0,hi=>simp at hi;subst hi;simp[World.cell?,hn5]
  |1,hi=>simp at hi;subst hi;simp[World.cell?,hn5]
  |k+2,hi=>simp at hi)
 rw[←HCH.out]at h5;refine zAo (i:=10) (v := .slice (some ⟨w2.heap.size,0,none⟩) 2 2) (w':=W5) 16 (by kernel_rfl) rfl rfl (by rfl) (by rw[hW5];go_simp;first|done|exact rfl) hS5 (fun _=>?_);simp only[sZa,sZb,sZc];refine oc 11 W5 17 147 #[.slice (some ⟨w2.heap.size,0,none⟩) 2 2] ?_;refine h5.mono ?_;rintro e w6 ⟨rfl,hw6⟩;rw[hw6];refine⟨_,rfl,hS5,fun _=>?_⟩;simp only[sZa,sZb,sZc];refine zAo (i:=12) (v := .int .i64 CH) (w':=W5) 5 (by kernel_rfl) rfl rfl (by rfl) (by go_simp;first|done|exact rfl) hS5 (fun _=>?_);simp only[sZa,sZb,sZc];refine wpAnyH_done (by kernel_rfl) ?_ _;obtain⟨q0,q1,q2,q3,q4,q5⟩:=hS5.facts;clear hW5 hn5 hw3 hw4 hw6 hS5;by_cases hc:CH=0
 · subst hc
   have HF:Hid (CS=CL):=HCS.out;go_wp2_with (go_at_call 151;refine(HCF.out _ HG5.out).mono ?_;rintro e w8 ⟨rfl,hg8⟩);go_ret;exact⟨by rw[HF.out];rfl,HG5.out.trans hg8⟩
 · have HF:Hid (CS=CH):=by show _=_;rw[HCS.out,if_pos hc]
   have h1b:(CH==0)=false:=beq_eq_false_iff_ne.2 hc;(have h1n:(CH != 0)=true:=by simp[bne,h1b]);go_wp2;go_ret;exact⟨by rw[HF.out];rfl,HG5.out⟩
end
namespace Pk
open Go.Sort
def zS:RSt:=⟨false,0,[]⟩
def cfS(m:List RSt)(i j:Nat):Int:=cmpS (m.getD i zS) (m.getD j zS)
theorem zF7(s:RSt):cmpS s s=0:=(cmpS_ord.eq _ _).2 rfl
theorem cmpS_pos{s t:RSt}(h:0<cmpS s t):cmpS t s<0:=(cmpS_ord.anti _ _).2 h
theorem zPr{s t:RSt}(h:¬cmpS s t<0):s=t∨cmpS t s<0:=by
 by_cases h0:cmpS s t=0
 · exact .inl ((cmpS_ord.eq _ _).1 h0)
 · exact .inr (cmpS_pos (by omega))
theorem cfS_swo(m:List RSt):SWO (Go.Proofs.ltOf (cfS m)):=by
 refine⟨fun x=>?_,fun x y z=>?_,fun x y z=>?_⟩<;>unfold Go.Proofs.ltOf cfS
 · rw[zF7];rfl
 · simp only[decide_eq_true_eq]
   exact cmpS_ord.tr _ _ _
 · simp only[decide_eq_false_iff_not]
   intro h1 h2 h3;rcases zPr h1 with e1|g1
   · rw[e1]at h3;exact h2 h3
   · rcases zPr h2 with e2|g2
     · rw[←e2]at h3;exact h1 h3
     · have:=cmpS_ord.tr _ _ _ g2 g1
       have h4:=(cmpS_ord.anti _ _).1 h3;omega
theorem zQ1{d:Array Nat}{n:Nat}(hp:d.toList.Perm (List.range n)){a:Nat}(ha:a<n):∃i,i<d.size∧d[i]! = a:=by
 have:=hp.mem_iff.2 (List.mem_range.2 ha);obtain⟨i,hi,e⟩:=List.getElem_of_mem this;have hi':i<d.size:=by simpa using hi
 exact⟨i,hi',by rw[getElem!_pos d i hi'];simpa using e⟩
theorem zVk{d:Array Nat}{n:Nat}(hp:d.toList.Perm (List.range n)){i:Nat}(hi:i<d.size):d[i]!<n:=by
 rw[getElem!_pos d i hi];exact List.mem_range.1 (hp.mem_iff.1 (by simp))
theorem zYo{m:List RSt}{d:Array Nat}(hs:SortedIn (Go.Proofs.ltOf (cfS m)) 0 m.length d)(hadj:∀i,i+1<m.length→cfS m d[i]! d[i+1]!≠0):∀(k i:Nat),i+k+1<m.length→cfS m d[i]! d[i+k+1]!<0
 |0,i,h=>by
  have h1:=hs i (i+1) (Nat.zero_le _) (by omega) (by omega);have h2:=hadj i (by omega);unfold Go.Proofs.ltOf at h1;have h1':=of_decide_eq_false h1;show cfS m d[i]! d[i+1]!<0;unfold cfS at h1' h2 ⊢;rcases zPr h1' with e|g
  · rw[e,zF7]at h2;exact absurd rfl h2
  · exact g
 |k+1,i,h=>by
  have h1:=zYo hs hadj k i (by omega);have h2:=zYo hs hadj 0 (i+k+1) (by omega);exact cmpS_ord.tr _ _ _ h1 h2
theorem zVs{m:List RSt}{d:Array Nat}(hd:d.size=m.length)(hp:d.toList.Perm (List.range m.length))(hs:SortedIn (Go.Proofs.ltOf (cfS m)) 0 m.length d)(hadj:∀i,i+1<m.length→cfS m d[i]! d[i+1]!≠0):m.Nodup:=by
 unfold List.Nodup;rw[List.pairwise_iff_getElem];intro a b ha hb hab e;obtain⟨i,hi,hia⟩:=zQ1 hp ha;obtain⟨j,hj,hjb⟩:=zQ1 hp hb;have hf:∀x,(hx:x<m.length)→m.getD x zS=m[x]:=fun x hx=>by rw[List.getD_eq_getElem?_getD,List.getElem?_eq_getElem hx];rfl
 have key:∀i j,i<j→j<m.length→d[i]!≠d[j]!→cfS m d[i]! d[j]!<0:=fun i j h1 h2 _=>by
  have:=zYo hs hadj (j-i-1) i (by omega)
  rwa [show i+(j-i-1)+1=j by omega]at this
 have hc:cfS m a b=0:=by unfold cfS;rw[hf a ha,hf b hb,e,zF7]
 have hc':cfS m b a=0:=by unfold cfS;rw[hf a ha,hf b hb,e,zF7]
 rcases Nat.lt_trichotomy i j with h|h|h
 · have:=key i j h (by omega) (by rw[hia,hjb];omega)
   rw[hia,hjb]at this;omega
 · subst h
   rw[hia]at hjb;omega
 · have:=key j i h (by omega) (by rw[hia,hjb];omega)
   rw[hia,hjb]at this;omega
theorem dup_adj{m:List RSt}{d:Array Nat}(hd:d.size=m.length)(hp:d.toList.Perm (List.range m.length)){i:Nat}(hi:i+1<m.length)(h:cfS m d[i]! d[i+1]! = 0):¬m.Nodup:=fun hn=>by
 have h1:=zVk hp (i:=i) (by omega);have h2:=zVk hp (i:=i+1) (by omega);have hne:d[i]!≠d[i+1]!:=by
  have hnd:d.toList.Nodup:=hp.nodup_iff.2 List.nodup_range;unfold List.Nodup at hnd;rw[List.pairwise_iff_getElem]at hnd;have:=hnd i (i+1) (by simpa using(show i<d.size by omega)) (by simpa using(show i+1<d.size by omega)) (by omega);rw[getElem!_pos d i (by omega),getElem!_pos d (i+1) (by omega)];simpa using this
 have he:=(cmpS_ord.eq _ _).1 h;have hf:∀x,(hx:x<m.length)→m.getD x zS=m[x]:=fun x hx=>by rw[List.getD_eq_getElem?_getD,List.getElem?_eq_getElem hx];rfl
 rw[hf _ h1,hf _ h2]at he;unfold List.Nodup at hn;rw[List.pairwise_iff_getElem]at hn;rcases Nat.lt_trichotomy d[i]! d[i+1]! with h|h|h
 · exact hn _ _ h1 h2 h he
 · exact hne h
 · exact hn _ _ h2 h1 h he.symm
end Pk
section
open Go.RowKit Go.Shelf Nums Fm Pk
set_option maxRecDepth 1000000
shelf_lay_g SlLaysE0.n41 Slgn 41 at Tryz 124 as cloneSt
shelf_lay_g SlLaysF0.n6 Slsf 6 at Tryz 125 as sortSt
structure StX(E:Nat)(w:World)(xss:List (List Value))(m:List RSt):Prop where
 len:xss.length=m.length
 all:∀(i:Nat) (s:RSt),m[i]?=some s→∃va,xss[i]?=some [.bool s.final,.int .i64 s.out,va]∧ArcsAt E w va s.arcs
 sml:∀s∈m,s.arcs.length≤1114112
theorem StX.below{E:Nat}{w w':World}{xss:List (List Value)}{m:List RSt}(h:StX E w xss m)(hb:Below E w w'):StX E w' xss m:=⟨h.len,fun i s hi=>by obtain⟨va,e1,e2⟩:=h.all i s hi;exact⟨va,e1,e2.below hb⟩,h.sml⟩
theorem StX.cells{E:Nat}{w:World}{xss:List (List Value)}{m:List RSt}(h:StX E w xss m):∀x∈xss,zG1 3 x:=fun x hx=>by
 obtain⟨i,hi,rfl⟩:=List.getElem_of_mem hx;obtain⟨s,hs⟩:∃s,m[i]?=some s:=⟨m[i]'(by have:=h.len;omega),List.getElem?_eq_getElem _⟩;obtain⟨va,e1,e2⟩:=h.all i s hs;obtain⟨ad,cap,rfl⟩:=e2.shape;rw[List.getElem?_eq_getElem hi]at e1;rw[Option.some.inj e1];exact⟨rfl,by simp[Value.oneCell']⟩
theorem zPh:∀(xss:List (List Value)),(∀x∈xss,x.length=3)→∀(j:Nat) (u:Value),xss.flatten[j]?=some u→∃i c x,j=i*3+c∧xss[i]?=some x∧x[c]?=some u
 |[],_,j,u,h=>by simp at h
 |y::r,hk,j,u,h=>by
  have hy:=hk y (by simp);rw[List.flatten_cons]at h;by_cases hj:j<3
  · rw[List.getElem?_append_left (by omega)]at h
    exact⟨0,j,y,by omega,rfl,h⟩
  · rw[List.getElem?_append_right (by omega),hy]at h
    obtain⟨i,c,x,e,h1,h2⟩:=zPh r (fun x hx=>hk x (by simp[hx])) (j-3) u h;exact⟨i+1,c,x,by omega,by simpa using h1,h2⟩
theorem zIi:∀(xss:List (List Value)),(∀x∈xss,x.length=3)→xss.flatten.length=xss.length*3
 |[],_=>rfl
 |y::r,hk=>by
  rw[List.flatten_cons,List.length_append,zIi r (fun x hx=>hk x (by simp[hx])),hk y (by simp),List.length_cons];omega
theorem zTn(E:Nat)(w:World)(xss:List (List Value))(m:List RSt)(vs:Value)(h:GRow E 3 w vs xss)(hX:StX E w xss m)(h0:m≠[])(hm:m.length≤1048576):
 Calls Tryz.prog 124 #[vs] w fun e w'=>∃g cap,e = .returned (.slice (some ⟨g,0,none⟩) m.length cap)∧GOwn 56 3 w.heap.size w' (.slice (some ⟨g,0,none⟩) m.length cap) xss∧Below w.heap.size w w':=by
 obtain⟨z,hz,hzs⟩:=rtyS.inf;obtain⟨i,hi,hz0,hz1,hz2⟩:=info_parts hz;have hsz:∀w,(Go.sizeOf 56).run Tryz.prog w = .ok 3 w:=fun w=>by simp[sizeOf,typeInfo,hi,hz1,Result.andThen]
 have hcl:=hX.cells;have hl3:∀x∈xss,x.length=3:=fun x hx=>(hcl x hx).1
 have hpos:=List.length_pos_iff.2 h0;have hlen:=hX.len;obtain⟨ad,cap,rfl,hc⟩:=h.ex;obtain⟨g,off,rfl,hg,hx⟩:=hc (by omega);have hcell:∀(j:Nat) u,xss.flatten[j]?=some u→w.cell? ⟨g,off+j,none⟩=some u:=fun j u hj=>by
  obtain⟨i,c,x,rfl,h1,h2⟩:=zPh xss hl3 j u hj;have:=hx i c x u h1 h2
  rwa [Nat.add_assoc]at this
 have hone:∀u∈xss.flatten,u.oneCell'=true:=fun u hu=>by
  obtain⟨x,hx,hux⟩:=List.mem_flatten.1 hu;exact(hcl x hx).2 u hux
 have hcall:Calls Tryz.prog 124 #[.slice (some ⟨g,off,none⟩) xss.length cap] w fun e w'=>∃v',e = .returned v'∧w'.ownsRow w.heap.size 56 3 v' xss.length xss.flatten∧v' ≠ .slice none 0 0∧Below w.heap.size w w':=
  AnyE.slices_Clone cloneSt i z 3 40 hi hz0 hz1 hz2 hzs (by decide) hsz g off xss.length cap xss.flatten w (zIi xss hl3) (by unfold maxLen;omega) (by omega) hcell hone
 refine hcall.mono ?_;rintro e w' ⟨v',rfl,ho,hne,hb⟩;have hO:GOwn 56 3 w.heap.size w' v' xss:=⟨hcl,ho⟩;obtain⟨g',cap',hv,_⟩:=hO.cell (by omega);subst hv;rw[hlen]at hO ⊢;exact⟨g',cap',rfl,hO,hb⟩
def encS(xss:List (List Value))(i:Nat):List Value:=xss.getD i [.bool false,.int .i64 0,.slice none 0 0]
theorem zEx{E:Nat}{w:World}{xss:List (List Value)}{m:List RSt}(h:StX E w xss m)(i:Nat):∃va,encS xss i=[.bool (m.getD i zS).final,.int .i64 (m.getD i zS).out,va]∧ArcsAt E w va (m.getD i zS).arcs∧(m.getD i zS).arcs.length≤1114112∧va.oneCell'=true:=by
 cases hs:m[i]? with
 |none=>
  have hx:xss[i]?=none:=List.getElem?_eq_none (by have:=h.len;have:=List.getElem?_eq_none_iff.1 hs;omega);rw[encS,List.getD_eq_getElem?_getD,hx,List.getD_eq_getElem?_getD,hs];exact⟨_,rfl,⟨⟨_,_,rfl,fun h=>by simp[zS]at h⟩,fun a ha=>by simp[zS]at ha,by simp[zS]⟩,by simp[zS],rfl⟩
 |some s=>
  obtain⟨va,e1,e2⟩:=h.all i s hs;rw[encS,List.getD_eq_getElem?_getD,e1,List.getD_eq_getElem?_getD,hs];obtain⟨ad,cap,hv⟩:=e2.shape;exact⟨va,rfl,e2,h.sml s (List.mem_of_getElem? hs),by rw[hv];rfl⟩
theorem sortFar{enc:Nat→List Value}{w:World}{blk off q:Nat}{d:Array Nat}{os:Array Obj}{k:Nat}(hk:k<w.heap.size)(hne:k≠blk):(sortWorldK enc 3 w blk off q d os).heap[k]?=w.heap[k]?:=by
 unfold sortWorldK Go.Sort.grow Go.Sort.putRowK Go.Sort.putRow Go.Sort.mapBlock;simp only;rw[Array.getElem?_append_left (by simpa[Go.Sort.ahead]using hk),Array.getElem?_modify,if_neg (fun e=>hne e.symm)];rfl
theorem zMu{enc:Nat→List Value}{w:World}{blk off q:Nat}{d:Array Nat}{os:Array Obj}{B:Nat}(hB:B≤blk)(hBw:B≤w.heap.size):Below B w (sortWorldK enc 3 w blk off q d os):=by
 refine⟨rfl,rfl,rfl,?_,fun k hk=>sortFar (by omega) (by omega)⟩;unfold sortWorldK Go.Sort.grow Go.Sort.putRowK Go.Sort.putRow Go.Sort.mapBlock;simp[Go.Sort.ahead]
theorem zUu(E B:Nat)(w:World)(xss:List (List Value))(m:List RSt)(g cap:Nat)(hO:GOwn 56 3 B w (.slice (some ⟨g,0,none⟩) m.length cap) xss)(hX:StX E w xss m)(hEB:E≤B)(hBw:B≤w.heap.size)(h0:m≠[])(hm:m.length≤1048576):
 Calls Tryz.prog 125 #[.slice (some ⟨g,0,none⟩) m.length cap,.func (.func 126) #[] #[]] w fun e w'=>e = .returned (.tuple #[])∧∃d:Array Nat,d.size=m.length∧d.toList.Perm (List.range m.length)∧Go.Sort.SortedIn (ltOf (cfS m)) 0 m.length d∧Go.Sort.HoldsK (encS xss) 3 w' g 0 d∧Below B w w':=by
 have hlen:=hX.len;have hpos:=List.length_pos_iff.2 h0;have eg:∀args w,(callFunc 126 args).run Tryz.prog w = .ok (.enter 126 args) w:=enters_of Tryz.func126 (by kernel_rfl) rfl;have hk:∀x,(encS xss x).length=3:=fun x=>by obtain⟨va,e,_⟩:=zEx hX x;rw[e];rfl
 have h1:∀x,∀v∈encS xss x,v.oneCell'=true:=fun x v hv=>by
  obtain⟨va,e,_,_,ho⟩:=zEx hX x;rw[e]at hv;simp only[List.mem_cons,List.not_mem_nil,or_false]at hv;rcases hv with rfl|rfl|rfl
  · rfl
  · rfl
  · exact ho
 obtain⟨hg,cur,hblk⟩:=hO.block (g:=g) rfl;have hgw:=(Array.getElem?_eq_some_iff.1 hblk).1;have hH:Go.Sort.HoldsK (encS xss) 3 w g 0 (Array.range m.length):=by
  obtain⟨g',cap',e,_,_,_,hc⟩:=hO.cell (by omega);simp only[Value.slice.injEq,Option.some.injEq,Addr.mk.injEq,and_true]at e;have eg':g=g':=e.1;subst eg';intro t ht;have ht2:t<m.length*3:=by simpa using ht
  obtain⟨i,j,rfl,hj⟩:∃i j,t=i*3+j∧j<3:=⟨t/3,t%3,by omega,by omega⟩;have hi:i<m.length:=by omega
  have hx:xss[i]?=some (xss[i]'(by omega)):=List.getElem?_eq_getElem _;have hl:=hk i;have he:encS xss i=xss[i]'(by omega):=by rw[encS,List.getD_eq_getElem?_getD,hx];rfl
  rw[he]at hl;refine⟨?_,by simp[World.frozen?,hblk]⟩;rw[Go.Sort.get_flatK _ _ _ _ (by simpa using ht2),show(i*3+j)/3=i by omega,show(i*3+j)%3=j by omega];have el:(Array.range m.length)[i]! = i:=by simp[hi]
  rw[el,he,Nat.zero_add];have hjl:j<(xss[i]'(by omega)).length:=by omega
  rw[getElem!_pos _ j hjl];exact hc i j _ _ hx (List.getElem?_eq_getElem hjl)
 have hcmp:CmpLays Tryz.prog 126 #[] (encS xss) 3 (cfS m) g 0 (Array.range m.length).size w:=fun q os dk _ x y=>by
  obtain⟨va,ea,ha,hla,_⟩:=zEx hX x;obtain⟨vb,eb,hb,hlb,_⟩:=zEx hX y;have hbl:Below E w (sortWorldK (encS xss) 3 w g 0 q dk os):=zMu (by omega) (by omega);rw[ea,eb];refine(zDk E _ _ va vb _ (ha.below hbl) (hb.below hbl) (Nat.le_trans (by omega) hbl.size) hla hlb).mono ?_;rintro e w' ⟨rfl,hgr⟩;exact⟨rfl,hgr.grown⟩
 have hc:=AnyQ.slices_SortFunc sortSt 3 Tryz.isAgg56 Tryz.sizeOf56 (encS xss) hk h1 (cfS m) (cfS_swo m) 126 #[] g 0 cap (Array.range m.length) w eg hcmp hH hgw (by simp;omega);rw[Array.size_range]at hc;refine hc.mono ?_;rintro e w' ⟨rfl,d,q,os,hp,hs,rfl⟩;obtain⟨hp1,_,hp3⟩:=hp;have hds:d.size=m.length:=by simpa using hp1
 have hsw:SWK (encS xss) 3 w g 0 d (sortWorldK (encS xss) 3 w g 0 q d os):=⟨q,os,rfl⟩;refine⟨rfl,d,hds,?_,hs,hsw.holds hgw hH (by simpa using hds),zMu hg hBw⟩;have e1:d.extract 0 m.length=d:=by rw[←hds];simp
 have e2:(Array.range m.length).extract 0 m.length=Array.range m.length:=by simp
 rw[e1,e2]at hp3;simpa using hp3
end
section
open Go.RowKit Nums Fm Pk
theorem Pk.form_at{m:List RSt}{k:Nat}{s:RSt}(h:m[k]?=some s):zBg k (m.drop k)=(zI9 s k&&zBg (k+1) (m.drop (k+1))):=by
 obtain⟨hk,rfl⟩:=List.getElem?_eq_some_iff.1 h;rw[List.drop_eq_getElem_cons hk,zBg]
theorem zTf(E:Nat)(w:World)(m:List RSt)(vs:Value)(h:StsAt E w vs m)(hE:E≤w.heap.size)(hT:Tabs w):
 Calls Tryz.prog 83 #[vs] w fun e w'=>e = .returned (.bool (zBg 0 m))∧Below w.heap.size w w':=by
 obtain⟨ad,cap,rfl⟩:=h.shape;obtain⟨n,hn⟩:∃n,m.length=n:=⟨_,rfl⟩;have HN:Hid (m.length=n):=hn;have HR:Hid (StsAt E w (.slice ad m.length cap) m):=h;have hl:=h.len;rw[hn]at HR hl ⊢;have HT:Hid (Tabs w):=hT;clear h hn hT;go_enter Tryz.func83,Tryz.ntmps83;go_wp2
 go_loopg [3,4,7] n (fun gm _ _ s7 wr=>∃(k:Nat),s7 = .int .i64 k∧k≤n∧n-k≤gm∧Hid (zBg 0 m=zBg k (m.drop k))∧Hid (Below w.heap.size w wr))
 case atStart=>exact⟨0,rfl,Nat.zero_le _,by omega,rfl,Below.refl _ _⟩
 case round=>
  obtain⟨k,rfl,hk,hgm,HO,HB⟩:=hrel;by_cases hlt:k<n
  · have hltz:(k:Int)<(n:Int):=by omega
    obtain⟨s,hs⟩:∃s,m[k]?=some s:=⟨m[k]'(by have:=HN.out;omega),List.getElem?_eq_getElem _⟩;have hRw:=HR.out.below (HB.out.mono hE);obtain⟨g,off,va,rfl,hg,c0,c1,c2,hA⟩:=hRw.at hs;obtain⟨vd,vc,hva⟩:=hA.shape;obtain⟨na,hna⟩:∃na,s.arcs.length=na:=⟨_,rfl⟩;rw[hna]at hva;subst hva;have HFA:Hid (zBg 0 m=(zI9 s k&&zBg (k+1) (m.drop (k+1)))):=HO.out.trans (form_at hs);obtain⟨sb,hsb⟩:∃sb,sb=wr.heap.size:=⟨_,rfl⟩;obtain⟨W1,hW1⟩:∃W1,W1=wr.alloc (.cells #[.bool s.final,.int .i64 s.out,.slice vd na vc] 56):=⟨_,rfl⟩;(have hn1:W1.heap[sb]?=some (.cells #[.bool s.final,.int .i64 s.out,.slice vd na vc] 56):=by rw[hW1,hsb];exact zAb _ _);(have hb1:Below wr.heap.size wr W1:=by rw[hW1];exact(Below.refl _ wr).alloc (Nat.le_refl _) _);have HBW:Hid (Below w.heap.size w W1):=HB.out.trans (hb1.mono HB.out.size);have HAt:Hid (ArcsAt E W1 (.slice vd na vc) s.arcs):=hA.below (hb1.mono (Nat.le_trans hE HB.out.size));have HCL:Hid (∀W,Below W1.heap.size W1 W→W.cell? ⟨sb,0,none⟩=some (.bool s.final)∧W.cell? ⟨sb,1,none⟩=some (.int .i64 s.out)∧W.cell? ⟨sb,2,none⟩=some (.slice vd na vc)):=fun W hW=>by
     have h1:W.heap[sb]?=W1.heap[sb]?:=hW.block sb (Array.getElem?_eq_some_iff.1 hn1).1;exact⟨by simp[World.cell?,h1,hn1],by simp[World.cell?,h1,hn1],by simp[World.cell?,h1,hn1]⟩
    have HE1:Hid (E≤W1.heap.size):=Nat.le_trans hE HBW.out.size;have HPL:Hid (Calls Tryz.prog 120 #[.agg #[.bool s.final,.int .i64 s.out,.slice vd na vc]] W1 fun e w'=>e = .returned (.int .i64 (zG5 s))∧Below W1.heap.size W1 w'):=zS1 E W1 s _ HAt.out HE1.out;have HOR:Hid (∀W,Below W1.heap.size W1 W→Calls Tryz.prog 121 #[.slice vd na vc,.int .i64 k] W fun e w'=>e = .returned (.bool (ordB k none s.arcs))∧Below W1.heap.size W1 w'):=fun W hW=>by
     refine(zO6 E W s.arcs _ k (HAt.out.below (hW.mono HE1.out)) (Nat.le_trans HE1.out hW.size) (HT.out.below (HBW.out.trans (hW.mono HBW.out.size)))).mono ?_;rintro e w' ⟨rfl,h2⟩;exact⟨rfl,hW.trans (h2.mono hW.size)⟩
    obtain⟨a0,a1,a2⟩:=HCL.out W1 (Below.refl _ _);clear hs hRw hA hna hn1 hb1 HO;(go_upto_region 4 with fail);rw[←hsb,←hW1];clear hsb hW1 c0 c1 c2;unfold zI9 at HFA;generalize zG5 s=L at *;generalize ordB (k:Int) none s.arcs=O at *;generalize s.arcs=arcs at *;generalize s.final=fn at *;generalize s.out=ot at *;by_cases h1:fn=false∧¬ot=0
    · obtain⟨rfl,h1⟩:=h1
      (have HF:Hid (zBg 0 m=false):=by show _=_;rw[HFA.out,decide_eq_false h1];rfl);have h1b:(ot==0)=false:=beq_eq_false_iff_ne.2 h1;(have h1n:(ot != 0)=true:=by simp[bne,h1b]);go_wp2;go_ret;exact⟨by rw[HF.out];rfl,HBW.out⟩
    · have h1x:(fn||decide (ot=0))=true:=by
       cases fn with
       |true=>rfl
       |false=>simp only[Bool.false_or,decide_eq_true_eq];exact Decidable.byContradiction fun h=>h1 ⟨rfl,h⟩
      rw[h1x]at HFA;clear h1;cases fn
      rotate_left
      focus
       clear h1x
      rotate_left
      focus
       (have h0:ot=0:=by simpa using h1x);subst h0;clear h1x
      all_goals
       by_cases hL:L=0
       · subst hL
         cases O with
         |false=>
          (have HF:Hid (zBg 0 m=false):=by show _=_;rw[HFA.out];simp);clear HFA
          go_wp2_with (first
           |(go_at_call 120;refine HPL.out.mono ?_;rintro e w2 ⟨rfl,hb2⟩;have HB2:Hid (Below W1.heap.size W1 w2):=hb2;clear hb2;obtain⟨p0,p1,p2⟩:=HCL.out w2 HB2.out)
           |(go_at_call 121;refine(HOR.out _ HB2.out).mono ?_;rintro e w3 ⟨rfl,hb3⟩;have HB3:Hid (Below W1.heap.size W1 w3):=hb3;clear hb3))
          go_ret;exact⟨by rw[HF.out];rfl,HBW.out.trans (HB3.out.mono HBW.out.size)⟩
         |true=>
          (have HF:Hid (zBg 0 m=zBg (k+1) (m.drop (k+1))):=by show _=_;rw[HFA.out];simp);clear HFA
          go_wp2_with (first
           |(go_at_call 120;refine HPL.out.mono ?_;rintro e w2 ⟨rfl,hb2⟩;have HB2:Hid (Below W1.heap.size W1 w2):=hb2;clear hb2;obtain⟨p0,p1,p2⟩:=HCL.out w2 HB2.out)
           |(go_at_call 121;refine(HOR.out _ HB2.out).mono ?_;rintro e w3 ⟨rfl,hb3⟩;have HB3:Hid (Below W1.heap.size W1 w3):=hb3;clear hb3))
          go_roundg (n-(k+1));(case measure=>omega);case rel=>exact⟨k+1,by go_num,by omega,Nat.le_refl _,HF,HBW.out.trans (HB3.out.mono HBW.out.size)⟩
       · have HF:Hid (zBg 0 m=false):=by show _=_;rw[HFA.out,decide_eq_false hL];simp
         have h1b:(L==0)=false:=beq_eq_false_iff_ne.2 hL;(have h1n:(L != 0)=true:=by simp[bne,h1b]);clear HFA
         go_wp2_with (first
          |(go_at_call 120;refine HPL.out.mono ?_;rintro e w2 ⟨rfl,hb2⟩;have HB2:Hid (Below W1.heap.size W1 w2):=hb2;clear hb2;obtain⟨p0,p1,p2⟩:=HCL.out w2 HB2.out)
          |(go_at_call 121;refine(HOR.out _ HB2.out).mono ?_;rintro e w3 ⟨rfl,hb3⟩;have HB3:Hid (Below W1.heap.size W1 w3):=hb3;clear hb3))
         go_ret;exact⟨by rw[HF.out];rfl,HBW.out.trans (HB2.out.mono HBW.out.size)⟩
  · have hltz:¬(k:Int)<(n:Int):=by omega
    have HE:Hid (zBg 0 m=true):=by
     show _=_;rw[HO.out,List.drop_of_length_le (by have:=HN.out;omega)];rfl
    go_wp2;go_ret;exact⟨by rw[HE.out];rfl,HB.out⟩
namespace Pk
theorem zQ7:∀(l:List RArc) (x:Int),minF x l≤x∧∀a∈l,minF x l≤a.out
 |[],x=>⟨Int.le_refl _,fun a ha=>by cases ha⟩
 |a::r,x=>by
  obtain⟨h1,h2⟩:=zQ7 r (min x a.out);rw[minF];refine⟨by omega,fun y hy=>?_⟩;rcases List.mem_cons.1 hy with rfl|hy
  · omega
  · exact h2 y hy
theorem zM3:∀(l:List RArc) (n:Int) (p:Option Int),ordB n p l=true→(∀a∈l,0≤a.to∧a.to<n∧zC8 a.label=true)∧(∀q,p=some q→q+l.length≤1114111∨l=[])∧(l=[]∨(0≤(l.head?.map (·.label)).getD 0∧(l.head?.map (·.label)).getD 0+l.length≤1114112))
 |[],_,_,_=>⟨fun a ha=>(by cases ha),fun q _ => .inr rfl,.inl rfl⟩
 |a::r,n,p,h=>by
  rw[ordB]at h;simp only[Bool.and_eq_true,decide_eq_true_eq,Bool.not_eq_true']at h;obtain⟨⟨⟨h1,h2⟩,h3⟩,h4⟩:=h;obtain⟨g1,g2,g3⟩:=zM3 r n (some a.label) h4;have hw:0≤a.label∧a.label<1114112:=by
   unfold zC8 at h2;simp only[Bool.and_eq_true]at h2;have:=of_decide_eq_true h2.1;exact⟨this.1,this.2.1⟩
  have hlen:a.label+r.length≤1114111:=by
   rcases g2 a.label rfl with h|h
   · exact h
   · rw[h];simp only[List.length_nil];omega
  refine⟨fun x hx=>?_,fun q hq=>?_,.inr ?_⟩
  · rcases List.mem_cons.1 hx with rfl|hx
    · exact⟨h3.1,h3.2,h2⟩
    · exact g1 x hx
  · subst hq
    simp only[Option.any_some,decide_eq_false_iff_not]at h1;simp only[List.length_cons];left;omega
  · simp only[List.head?_cons,Option.map_some,Option.getD_some,List.length_cons]
    omega
theorem zEu{s:RSt}{k:Nat}(h:zI9 s k=true):(∀a∈s.arcs,0≤a.to∧a.to<(k:Int)∧0≤a.out)∧0≤s.out∧s.arcs.length≤1114112:=by
 unfold zI9 at h;simp only[Bool.and_eq_true,decide_eq_true_eq]at h;obtain⟨⟨h1,h2⟩,h3⟩:=h;obtain⟨g1,_,g3⟩:=zM3 _ _ _ h3;unfold zG5 at h2;obtain⟨l1,l2⟩:=zQ7 s.arcs (if s.final then s.out else 9223372036854775807);refine⟨fun a ha=>⟨(g1 a ha).1,(g1 a ha).2.1,by have:=l2 a ha;omega⟩,?_,?_⟩
 · cases hf:s.final with
   |true=>rw[hf,if_pos rfl]at l1 h2;omega
   |false=>rw[hf]at h1;simp only[Bool.false_or,decide_eq_true_eq]at h1;omega
 · rcases g3 with h|h
   · rw[h];decide
   · omega
theorem zHn:∀(m:List RSt) (i k:Nat) (s:RSt),zBg i m=true→m[k]?=some s→zI9 s (i+k)=true
 |[],_,_,_,_,h=>by simp at h
 |x::r,i,0,s,h,hk=>by
  rw[zBg,Bool.and_eq_true]at h;simp only[List.getElem?_cons_zero,Option.some.injEq]at hk;rw[←hk];exact h.1
 |x::r,i,k+1,s,h,hk=>by
  rw[zBg,Bool.and_eq_true]at h;have:=zHn r (i+1) k s h.2 (by simpa using hk)
  rwa [show i+1+k=i+(k+1)by omega]at this
theorem beh_nn{known:List Pk.Reach}(hk:∀r∈known,KnOk r):∀(l:List RArc) (r:Pk.Reach),0≤r.arcs∧0≤r.words∧0≤r.weight→0≤(l.foldl (zE6 known) r).arcs∧0≤(l.foldl (zE6 known) r).words∧0≤(l.foldl (zE6 known) r).weight
 |[],r,h=>h
 |a::l,r,h=>by
  rw[List.foldl_cons];refine beh_nn hk l _ ?_;have hw:0≤(known.getD a.to.toNat ⟨0,0,0⟩).words:=by
   rw[List.getD_eq_getElem?_getD];cases hg:known[a.to.toNat]? with
   |none=>exact Int.le_refl _
   |some T=>exact(hk T (List.mem_of_getElem? hg)).w0
  unfold zE6;simp only;omega
theorem beh_ok{s:RSt}{known:List Pk.Reach}{base:Int}(hb:1≤base)(hk:∀r∈known,KnOk r)(h0:0≤s.out)(h:okR base (behR s known)=true):KnOk (behR s known):=by
 have h1:0≤(behR s known).arcs∧0≤(behR s known).words∧0≤(behR s known).weight:=by
  unfold behR;refine beh_nn hk s.arcs _ ?_
  split
  · exact⟨by simp,by simp,h0⟩
  · exact⟨by simp,by simp,by simp⟩
 have h2:=of_decide_eq_true h;exact⟨h1.1,h2.1,h1.2.1,h2.2.1,h1.2.2,by omega⟩
theorem bnd_at{base:Int}{known:List Pk.Reach}{m:List RSt}{k:Nat}{s:RSt}(h:m[k]?=some s):bndB base known (m.drop k)=(okR base (behR s known)&&bndB base (known++[behR s known]) (m.drop (k+1))):=by
 obtain⟨hk,rfl⟩:=List.getElem?_eq_some_iff.1 h;rw[List.drop_eq_getElem_cons hk,bndB]
end Pk
structure BLoop(w wr:World)(base:Int)(m:List RSt)(mb:Nat)(vs vk:Value)(known:List Pk.Reach)(k:Nat):Prop where
 bel:Below w.heap.size w wr
 row:GOwn 206 3 w.heap.size wr vk (known.map zEi)
 len:known.length=k
 ok:∀r∈known,KnOk r
 eq:bndB base [] m=bndB base known (m.drop k)
 mac:wr.heap[mb]?=some (.cells #[.int .i64 base,vs] 31)
theorem zPz(E:Nat)(w:World)(base:Int)(m:List RSt)(vs:Value)(h:StsAt E w vs m)(hE:E≤w.heap.size)(hb1:1≤base)(hb2:base≤1048576)(hF:zBg 0 m=true)(hm:m.length≤1048576):
 Calls Tryz.prog 84 #[.agg #[.int .i64 base,vs]] w fun e w'=>e = .returned (.bool (bndB base [] m))∧Below w.heap.size w w':=by
 obtain⟨ad,cap,rfl⟩:=h.shape;obtain⟨n,hn⟩:∃n,m.length=n:=⟨_,rfl⟩;have HN:Hid (m.length=n):=hn;have HR:Hid (StsAt E w (.slice ad m.length cap) m):=h;rw[hn]at HR hm ⊢;clear h hn;go_enter Tryz.func84,Tryz.ntmps84;have HFM:Hid (zBg 0 m=true):=hF;obtain⟨mb,hmb⟩:∃mb,mb=w.heap.size:=⟨_,rfl⟩;obtain⟨W0,hW0⟩:∃W0,W0=w.alloc (.cells #[.int .i64 base,.slice ad n cap] 31):=⟨_,rfl⟩;have HS0:Hid (BLoop w W0 base m mb (.slice ad n cap) (.slice none 0 0) [] 0):=⟨by rw[hW0];exact(Below.refl _ w).alloc (Nat.le_refl _) _,GOwn.nil _ _ _ _,rfl,fun r hr=>(by cases hr),rfl,by rw[hW0,hmb];exact zAb _ _⟩;have HMB:Hid (mb=w.heap.size):=hmb;clear hF;go_wp2;rw[←hW0,←hmb];clear hW0 hmb
 go_loopg [3,5,6,10] n (fun gm s3 _ _ s10 wr=>∃(k:Nat) (known:List Pk.Reach) (kd:Option Addr) (kc:Nat),s10 = .int .i64 k∧k≤n∧n-k≤gm∧s3 = .slice kd k kc∧Hid (BLoop w wr base m mb (.slice ad n cap) (.slice kd k kc) known k))
 case atStart=>exact⟨0,[],none,0,rfl,Nat.zero_le _,by omega,rfl,HS0⟩
 case round=>
  obtain⟨k,known,kd,kc,rfl,hk,hgm,rfl,HL⟩:=hrel;by_cases hlt:k<n
  · have hltz:(k:Int)<(n:Int):=by omega
    obtain⟨s,hs⟩:∃s,m[k]?=some s:=⟨m[k]'(by have:=HN.out;omega),List.getElem?_eq_getElem _⟩;obtain⟨g,off,va,rfl,hg,c0,c1,c2,hA⟩:=(HR.out.below (HL.out.bel.mono hE)).at hs;obtain⟨vd,vc,hva⟩:=hA.shape;obtain⟨na,hna⟩:∃na,s.arcs.length=na:=⟨_,rfl⟩;rw[hna]at hva;subst hva;have hFS:=zHn m 0 k s HFM.out hs;rw[Nat.zero_add]at hFS;obtain⟨q1,q2,q3⟩:=zEu hFS;have hEq:bndB base [] m=(okR base (behR s known)&&bndB base (known++[behR s known]) (m.drop (k+1))):=HL.out.eq.trans (bnd_at hs);have hso:=HR.out.ok s (List.mem_of_getElem? hs);obtain⟨W1,hW1⟩:∃W1,W1=wr.alloc (.cells #[.bool s.final,.int .i64 s.out,.slice vd na vc] 56):=⟨_,rfl⟩;obtain⟨sb,hsb⟩:∃sb,sb=wr.heap.size:=⟨_,rfl⟩;(have hn1:W1.heap[sb]?=some (.cells #[.bool s.final,.int .i64 s.out,.slice vd na vc] 56):=by rw[hW1,hsb];exact zAb _ _);(have a0:W1.cell? ⟨sb,0,none⟩=some (.bool s.final):=by simp[World.cell?,hn1]);(have a1:W1.cell? ⟨sb,1,none⟩=some (.int .i64 s.out):=by simp[World.cell?,hn1]);(have a2:W1.cell? ⟨sb,2,none⟩=some (.slice vd na vc):=by simp[World.cell?,hn1]);(have hb1':Below wr.heap.size wr W1:=by rw[hW1];exact(Below.refl _ wr).alloc (Nat.le_refl _) _);have HB1:Hid (Below wr.heap.size wr W1):=hb1';have hEw:E≤wr.heap.size:=Nat.le_trans hE HL.out.bel.size;have hA1:=hA.below (hb1'.mono hEw);have hK1:GRow W1.heap.size 3 W1 (.slice kd k kc) (known.map zEi):=(HL.out.row.below hb1').reads
    have HBH:Hid (Calls Tryz.prog 122 #[.agg #[.bool s.final,.int .i64 s.out,.slice vd na vc],.slice kd k kc] W1 fun e w'=>e = .returned (.agg #[.int .i64 (behR s known).arcs,.int .i64 (behR s known).words,.int .i64 (behR s known).weight])∧Below W1.heap.size W1 w'):=
     zTx W1.heap.size W1 s _ _ known ⟨hA1.row.mono (Nat.le_trans hEw hb1'.size),hA1.ok,hA1.len⟩ hK1 (Nat.le_refl _) (fun a ha=>by have:=q1 a ha;rw[HL.out.len];exact this) HL.out.ok q3 hso.2 q2
    have HKO:Hid (okR base (behR s known)=true→KnOk (behR s known)):=beh_ok hb1 HL.out.ok q2;have HEQ:Hid (bndB base [] m=(okR base (behR s known)&&bndB base (known++[behR s known]) (m.drop (k+1)))):=hEq;clear hs hA hFS q1 q2 q3 hEq hso hb1' hA1 hK1 hna HS0;generalize behR s known=R at *;clear hn1;(go_upto_region 5 with fail);rw[←hW1,←hsb];clear hW1 hsb c0 c1 c2;(go_upto_region 6 with(go_at_call 122;refine HBH.out.mono ?_;rintro e w2 ⟨rfl,hb2'⟩;have HB2:Hid (Below W1.heap.size W1 w2):=hb2';clear hb2'));obtain⟨rb,hrb⟩:∃rb,rb=w2.heap.size:=⟨_,rfl⟩;obtain⟨w3,hw3⟩:∃w3,w3=w2.alloc (.cells #[.int .i64 R.arcs,.int .i64 R.words,.int .i64 R.weight] 206):=⟨_,rfl⟩;(have hb3:Below w2.heap.size w2 w3:=by rw[hw3];exact(Below.refl _ w2).alloc (Nat.le_refl _) _);have hr3:RcBlk rb R w3:=⟨by rw[hw3,hrb];exact zAb _ _⟩;have hb03:Below wr.heap.size wr w3:=HB1.out.trans ((HB2.out.trans (hb3.mono HB2.out.size)).mono HB1.out.size);have hmac:w3.heap[mb]?=some (.cells #[.int .i64 base,.slice (some ⟨g,off,none⟩) n cap] 31):=(hb03.block mb (Array.getElem?_eq_some_iff.1 HL.out.mac).1).trans HL.out.mac;have HBW:Hid (Below w.heap.size w w3):=HL.out.bel.trans (hb03.mono HL.out.bel.size);have HOW:Hid (GOwn 206 3 w.heap.size w3 (.slice kd k kc) (known.map zEi)):=HL.out.row.below hb03;have HMAC:Hid (w3.heap[mb]?=some (.cells #[.int .i64 base,.slice (some ⟨g,off,none⟩) n cap] 31)):=hmac;(have hm0:w3.cell? ⟨mb,0,none⟩=some (.int .i64 base):=by simp[World.cell?,hmac]);obtain⟨r0,r1,r2,_⟩:=hr3.facts;rw[←hrb,←hw3];clear a0 a1 a2 hrb hw3 hb3 hr3 hb03 hmac;by_cases hA:24<R.arcs
    · have HF:Hid (bndB base [] m=false):=by show _=_;rw[HEQ.out,okR,decide_eq_false (by omega)];rfl
      clear HEQ HKO;go_wp2;go_ret;exact⟨by rw[HF.out];rfl,HBW.out⟩
    · by_cases hW:4096<R.words
      · have HF:Hid (bndB base [] m=false):=by show _=_;rw[HEQ.out,okR,decide_eq_false (by omega)];rfl
        clear HEQ HKO;go_wp2;go_ret;exact⟨by rw[HF.out];rfl,HBW.out⟩
      · by_cases hG:1048576-base<R.weight
        · have HF:Hid (bndB base [] m=false):=by show _=_;rw[HEQ.out,okR,decide_eq_false (by omega)];rfl
          clear HEQ HKO;go_wp2;go_ret;exact⟨by rw[HF.out];rfl,HBW.out⟩
        · have hok:okR base R=true:=by rw[okR,decide_eq_true (by omega)]
          (have HF:Hid (bndB base [] m=bndB base (known++[R]) (m.drop (k+1))):=by show _=_;rw[HEQ.out,hok];rfl);have HKR:Hid (KnOk R):=HKO.out hok;(have HLN:Hid ((known.map zEi).length<1099511627776):=by show _<_;rw[List.length_map,HL.out.len];omega);have HBS:Hid (w.heap.size≤w3.heap.size):=HBW.out.size;clear HEQ HKO hok;go_wp2_with (at_builtin;refine zC4 rtyRc (by rfl) _ _ [.int .i64 R.arcs,.int .i64 R.words,.int .i64 R.weight] _ rfl w.heap.size _ _ _ _ rfl HOW.out rfl rfl (zX8 R) HLN.out HBS.out ?_;intro v5 w5 ho5 hb5 hg5;obtain⟨d5,e5,hv5,_⟩:=ho5.shape;rw[List.length_append,List.length_map,HL.out.len]at hv5;simp only[List.length_singleton]at hv5;subst hv5;have HO5:Hid _:=ho5;have HB5:Hid _:=hb5;have HG5:Hid _:=hg5;clear ho5 hb5 hg5);have HNX:Hid (BLoop w w5 base m mb (.slice (some ⟨g,off,none⟩) n cap) (.slice d5 (k+1) e5) (known++[R]) (k+1)):=by
           refine⟨HBW.out.trans (HB5.out.mono (Nat.le_refl _)),?_,by rw[List.length_append,HL.out.len];rfl,fun r hr=>?_,HF.out,?_⟩
           · rw[List.map_append]
             exact HO5.out
           · rcases List.mem_append.1 hr with h|h
             · exact HL.out.ok r h
             · rw[List.mem_singleton.1 h]
               exact HKR.out
           · have hlt3:=(Array.getElem?_eq_some_iff.1 HMAC.out).1
             refine(HG5.out.block mb (by simp;omega) (fun e=>?_)).trans (((MapKept.heap_alloc _ _).2 mb hlt3).trans HMAC.out);obtain⟨_,cur,hc⟩:=GOwn.block HOW.out e.symm;rw[HMAC.out]at hc;simp only[Option.some.injEq,Obj.cells.injEq]at hc;exact absurd hc.2.1 (by decide)
          go_roundg (n-(k+1));(case measure=>omega);case rel=>exact⟨k+1,_,_,_,by go_num,by omega,Nat.le_refl _,rfl,HNX⟩
  · have hltz:¬(k:Int)<(n:Int):=by omega
    have HE:Hid (bndB base [] m=true):=by
     show _=_;rw[HL.out.eq,List.drop_of_length_le (by have:=HN.out;omega)];rfl
    go_wp2;go_ret;exact⟨by rw[HE.out];rfl,HL.out.bel⟩
structure SU(g k:Nat)(s t:RSt)(va vb:Value)(w0 w:World):Prop where
 a0:w.cell? ⟨g,k*3,none⟩=some (.bool s.final)
 a1:w.cell? ⟨g,k*3+1,none⟩=some (.int .i64 s.out)
 a2:w.cell? ⟨g,k*3+2,none⟩=some va
 b0:w.cell? ⟨g,(k+1)*3,none⟩=some (.bool t.final)
 b1:w.cell? ⟨g,(k+1)*3+1,none⟩=some (.int .i64 t.out)
 b2:w.cell? ⟨g,(k+1)*3+2,none⟩=some vb
 gr:Gr w0 w
theorem SU.facts{g k:Nat}{s t:RSt}{va vb:Value}{w0 w:World}(h:SU g k s t va vb w0 w):w.cell? ⟨g,k*3,none⟩=some (.bool s.final)∧w.cell? ⟨g,k*3+1,none⟩=some (.int .i64 s.out)∧w.cell? ⟨g,k*3+2,none⟩=some va∧w.cell? ⟨g,(k+1)*3,none⟩=some (.bool t.final)∧w.cell? ⟨g,(k+1)*3+1,none⟩=some (.int .i64 t.out)∧w.cell? ⟨g,(k+1)*3+2,none⟩=some vb:=⟨h.a0,h.a1,h.a2,h.b0,h.b1,h.b2⟩
theorem SU.grow{g k:Nat}{s t:RSt}{va vb:Value}{w0 w w':World}(h:SU g k s t va vb w0 w)(hg:g<w0.heap.size)(hr:Gr w w'):SU g k s t va vb w0 w':=by
 have e:∀j,w'.cell? ⟨g,j,none⟩=w.cell? ⟨g,j,none⟩:=fun j=>hr.bel.cell (p:=⟨g,j,none⟩) (Nat.lt_of_lt_of_le hg h.gr.bel.size)
 exact⟨(e _).trans h.a0,(e _).trans h.a1,(e _).trans h.a2,(e _).trans h.b0,(e _).trans h.b1,(e _).trans h.b2,h.gr.trans hr⟩
theorem zSh(E:Nat)(w:World)(m:List RSt)(vs:Value)(h:StsAt E w vs m)(hE:E≤w.heap.size)(hF:zBg 0 m=true)(hm:m.length≤1048576)(h0:m≠[]):
 Calls Tryz.prog 86 #[vs] w fun e w'=>e = .returned (.bool (decide m.Nodup))∧Below w.heap.size w w':=by
 obtain⟨xss,hR,hxl,hx⟩:=h.ex;have hX:StX E w xss m:=⟨hxl,hx,fun s hs=>by
  obtain⟨i,hi,rfl⟩:=List.getElem_of_mem hs;have:=zHn m 0 i _ hF (List.getElem?_eq_getElem hi);exact(zEu this).2.2⟩
 obtain⟨ad,cap,rfl⟩:=h.shape;have hpos:=List.length_pos_iff.2 h0;obtain⟨n,hn⟩:∃n,m.length=n+1:=⟨m.length-1,by omega⟩;have HN:Hid (m.length=n+1):=hn;have HX:Hid (StX E w xss m):=hX;have HCL:Hid (Calls Tryz.prog 124 #[.slice ad (n+1) cap] w fun e w'=>∃g cap,e = .returned (.slice (some ⟨g,0,none⟩) (n+1) cap)∧GOwn 56 3 w.heap.size w' (.slice (some ⟨g,0,none⟩) (n+1) cap) xss∧Below w.heap.size w w'):=by
  have:=zTn E w xss m _ hR hX h0 hm;rw[hn]at this;exact this
 have HSO:Hid (∀w1 g cap,GOwn 56 3 w.heap.size w1 (.slice (some ⟨g,0,none⟩) (n+1) cap) xss→Below w.heap.size w w1→Calls Tryz.prog 125 #[.slice (some ⟨g,0,none⟩) (n+1) cap,.func (.func 126) #[] #[]] w1 fun e w'=>e = .returned (.tuple #[])∧∃d:Array Nat,d.size=m.length∧d.toList.Perm (List.range m.length)∧Go.Sort.SortedIn (ltOf (cfS m)) 0 m.length d∧Go.Sort.HoldsK (encS xss) 3 w' g 0 d∧Below w.heap.size w1 w'):=fun w1 g cap ho hb=>by
  have:=zUu E w.heap.size w1 xss m g cap (by rw[hn];exact ho) (hX.below (hb.mono hE)) hE hb.size h0 hm;rw[hn]at this ⊢;exact this
 rw[hn]at hm ⊢;clear h hR hxl hx hX hn hF;go_enter Tryz.func86,Tryz.ntmps86;go_upto_region 2 with(go_at_call 124;refine HCL.out.mono ?_;rintro e w1 ⟨g,gc,rfl,ho1,hb1⟩;have HO1:Hid (GOwn 56 3 w.heap.size w1 (.slice (some ⟨g,0,none⟩) (n+1) gc) xss):=ho1;have HB1:Hid (Below w.heap.size w w1):=hb1;clear ho1 hb1)
 go_upto_region 3 with(go_at_call 125;refine(HSO.out w1 g gc HO1.out HB1.out).mono ?_;rintro e w2 ⟨rfl,d,hd1,hd2,hd3,hd4,hb2⟩)
 have hgc:n+1≤gc:=by
  obtain⟨_,c',e,hc⟩:=HO1.out.shape;simp only[Value.slice.injEq]at e;omega
 have hgw:g<w2.heap.size:=Nat.lt_of_lt_of_le (HO1.out.lt (g:=g) rfl) hb2.size;have HBW:Hid (Below w.heap.size w w2):=HB1.out.trans (hb2.mono (Nat.le_refl _));have HD:Hid (d.size=m.length∧d.toList.Perm (List.range m.length)∧Go.Sort.SortedIn (ltOf (cfS m)) 0 m.length d∧Go.Sort.HoldsK (encS xss) 3 w2 g 0 d):=⟨hd1,hd2,hd3,hd4⟩;have HX2:Hid (StX E w2 xss m):=HX.out.below (HBW.out.mono hE);have hgcz:((n:Int)+1)≤(gc:Int):=by omega
 clear hd1 hd2 hd3 hd4 hb2;go_wp2
 all_goals
  go_loopg [4,12] n (fun gm _ s12 wr=>∃(k:Nat),s12 = .int .i64 k∧k≤n∧n-k≤gm∧Hid (∀i,i<k→cfS m d[i]! d[i+1]!≠0)∧Hid (Gr w2 wr))
  case atStart=>exact⟨0,rfl,Nat.zero_le _,by omega,fun i hi=>absurd hi (Nat.not_lt_zero _),Gr.refl _⟩
  case round=>
   obtain⟨k,rfl,hk,hgm,HA,HG⟩:=hrel;by_cases hlt:k<n
   · have hltz:(k:Int)<(n:Int):=by omega
     have hn1:=HN.out;have hds:=HD.out.1;obtain⟨va,ea,haa,hla,_⟩:=zEx HX2.out d[k]!;obtain⟨vb,eb,hbb,hlb,_⟩:=zEx HX2.out d[k+1]!;obtain⟨s,hs⟩:∃s,m.getD d[k]! zS=s:=⟨_,rfl⟩;obtain⟨t,ht⟩:∃t,m.getD d[k+1]! zS=t:=⟨_,rfl⟩;rw[hs]at ea haa hla;rw[ht]at eb hbb hlb;have hcell:∀(i c:Nat),i<d.size→c<3→wr.cell? ⟨g,i*3+c,none⟩=some (encS xss d[i]!)[c]!:=fun i c hi hc=>by
      have:=(HD.out.2.2.2.cell hi hc).1;rw[Nat.zero_add]at this;exact(HG.out.bel.cell (p:=⟨g,i*3+c,none⟩) hgw).trans this
     have hS:SU g k s t va vb w2 wr:=by
      have a0:=hcell k 0 (by omega) (by omega);have a1:=hcell k 1 (by omega) (by omega);have a2:=hcell k 2 (by omega) (by omega);have b0:=hcell (k+1) 0 (by omega) (by omega);have b1:=hcell (k+1) 1 (by omega) (by omega);have b2:=hcell (k+1) 2 (by omega) (by omega);rw[ea]at a0 a1 a2;rw[eb]at b0 b1 b2;exact⟨a0,a1,a2,b0,b1,b2,HG.out⟩
     obtain⟨vd,vc,hva⟩:=haa.shape;obtain⟨ud,uc,hvb⟩:=hbb.shape;obtain⟨na,hna⟩:∃na,s.arcs.length=na:=⟨_,rfl⟩;obtain⟨nb,hnb⟩:∃nb,t.arcs.length=nb:=⟨_,rfl⟩;rw[hna]at hva;rw[hnb]at hvb;subst hva;subst hvb;have hS0:=hS.grow hgw ((Gr.refl wr).drew);have hE2:E≤w2.heap.size:=Nat.le_trans hE HBW.out.size;have hbd:Below E w2 wr.drew:=(HG.out.drew).bel.mono hE2;have HCS:Hid (Calls Tryz.prog 126 #[.agg #[.bool s.final,.int .i64 s.out,.slice vd na vc],.agg #[.bool t.final,.int .i64 t.out,.slice ud nb uc]] wr.drew fun e w'=>e = .returned (.int .i64 (cfS m d[k]! d[k+1]!))∧Gr wr.drew w'):=by
      have:=zDk E s t _ _ wr.drew (haa.below hbd) (hbb.below hbd) (Nat.le_trans hE2 hbd.size) hla hlb;unfold cfS;rw[hs,ht];exact this
     have HS0:Hid (SU g k s t (.slice vd na vc) (.slice ud nb uc) w2 wr.drew):=hS0;(have HK1:Hid (cfS m d[k]! d[k+1]! = 0→¬m.Nodup):=fun h=>dup_adj hds HD.out.2.1 (by omega) h);have HK2:Hid (cfS m d[k]! d[k+1]!≠0→∀i,i<k+1→cfS m d[i]! d[i+1]!≠0):=fun h i hi=>by
      by_cases hik:i=k
      · rw[hik];exact h
      · exact HA.out i (by omega)
     (have hk1:IntKind.i64.wrap ((k:Int)+1)=(k:Int)+1:=by rw[IntKind.wrap_i64];omega);(have hk2:(k:Int)+1<(n:Int)+1:=by omega);(have hk3:(0:Int)≤(k:Int)+1:=by omega);(have hk4:((k:Int)+1).toNat=k+1:=by omega);(have hk5:(k:Int)<(n:Int)+1:=by omega);clear hs ht hcell hS ea eb haa hbb hna hnb hds hn1;generalize cfS m d[k]! d[k+1]! = c at HCS HK1 HK2;(go_upto_region 6 with fail);refine zAh (S:=SU g k s t (.slice vd na vc) (.slice ud nb uc) w2) 11 rfl zAr hS0 (fun _=>?_);refine tq4 SU.facts 0 15 1 16 2 17 3 18 ?_;simp only[sZa,sZb,sZc];refine tq2 SU.facts 4 19 5 20 ?_;simp only[sZa,sZb,sZc];refine tk (i:=6) (v := .int .i64 ((k:Int)+1)) 21 rfl rfl (by kernel_rfl) (fun _ s=>by(have h:=SU.facts s;clear s;go_simp;first|done|exact rfl|simp_all|(simp;omega))) ?_;simp only[sZa,sZb,sZc];refine tq2 SU.facts 7 22 8 23 ?_;simp only[sZa,sZb,sZc];refine oc 9 wr.drew 24 126 #[.agg #[.bool s.final,.int .i64 s.out,.slice vd na vc],.agg #[.bool t.final,.int .i64 t.out,.slice ud nb uc]] ?_;refine HCS.out.mono ?_;rintro e w3 ⟨rfl,hg3⟩;have hS3:=HS0.out.grow hgw hg3;have HG3:Hid (Gr w2 w3):=hS3.gr;refine⟨_,rfl,hS3,fun _=>?_⟩;simp only[sZa,sZb,sZc];by_cases hc:c=0
     · subst hc
       have HF:Hid (decide m.Nodup=false):=decide_eq_false (HK1.out rfl);refine tk (i:=10) (v := .bool true) 25 rfl rfl (by kernel_rfl) (fun _ s=>by(have h:=SU.facts s;clear s;go_simp;first|done|exact rfl|simp_all|(simp;omega))) ?_;simp only[sZa,sZb,sZc];refine wpAnyH_done (by kernel_rfl) ?_ _;go_wp2;go_ret;exact⟨by rw[HF.out];rfl,HBW.out.trans (HG3.out.bel.mono HBW.out.size)⟩
     · have HF:Hid (∀i,i<k+1→cfS m d[i]! d[i+1]!≠0):=HK2.out hc
       have h1b:(c==0)=false:=beq_eq_false_iff_ne.2 hc;refine tk (i:=10) (v := .bool false) 25 rfl rfl (by kernel_rfl) (fun _ s=>by(have h:=SU.facts s;clear s;go_simp;first|done|exact rfl|simp_all|(simp;omega))) ?_;simp only[sZa,sZb,sZc];refine wpAnyH_done (by kernel_rfl) ?_ _;go_wp2;go_roundg (n-(k+1));(case measure=>omega);case rel=>exact⟨k+1,by go_num,by omega,Nat.le_refl _,HF,HG3⟩
   · have hltz:¬(k:Int)<(n:Int):=by omega
     (have hkn:k=n:=by omega);have HF:Hid (decide m.Nodup=true):=by
      refine decide_eq_true (zVs HD.out.1 HD.out.2.1 HD.out.2.2.1 fun i hi=>?_);have:=HN.out;exact HA.out i (by omega)
     go_wp2;go_ret;exact⟨by rw[HF.out];rfl,HBW.out.trans (HG.out.bel.mono HBW.out.size)⟩
end
section
open Go.RowKit Nums Ed Lv
def bldL(P:Program)(v:Value)(w:World):Result Value:=(Instr.build 165 #[(0,v)]).run P w
theorem zNp(ρ:Operand→Value)(x:Operand)(dst:Option Tmp)(ty:TypeId)(pos:String)(af:Array Edge)(g:Option (Nat×Bool))(w:World):(execOp ρ ⟨dst,.build 165 #[(0,x)],ty,pos,af,g⟩).run Tryz.prog w=(bldL Tryz.prog (ρ x) w).andThen (fun v w' => .ok (.value v) w'):=by
 simp only[execOp,Sem.run_bind,bldL,Sem.run_pure,List.map_toArray,List.map_cons,List.map_nil]
def levV(v:Value)(bs:List Nat):Value := .agg (levC v bs)
theorem bldL_at(ad:Option Addr)(n c:Nat)(w:World):bldL Tryz.prog (.slice ad n c) w = .ok (levV (.slice ad n c) zeros) w:=by kernel_rfl
theorem zTi(ρ:Operand→Value)(x:Operand)(dst:Option Tmp)(ty:TypeId)(pos:String)(af:Array Edge)(g:Option (Nat×Bool))(w:World):(execOp ρ ⟨dst,.box 165 x,ty,pos,af,g⟩).run Tryz.prog w = .ok (.value (.pointer (some ⟨w.heap.size,0,none⟩))) (w.alloc (.cells (celV (ρ x)) 165)):=by
 simp only[execOp,Sem.run_bind,Instr.box,newVar,newRow];rfl
theorem zS9(v:Value)(bs:List Nat):celV (levV v bs)=levC v bs:=rfl
def rightB(l:List UInt8)(e:Int):Bool:=zAq l&&decide (0≤e)&&decide (e≤3)
theorem zOn{l:List UInt8}(h:zAq l=true):∃xs,rs l=some xs∧1≤xs.length∧xs.length≤24:=by
 unfold zAq at h;cases e:rs l with
 |none=>rw[e]at h;cases h
 |some xs=>rw[e]at h;simp at h;exact⟨xs,rfl,by omega,by omega⟩
def zIn(d k:Nat):List Nat:=mk fun j=>if j<k then d+1 else 0
theorem zTl(d:Nat):zIn d 0=zeros:=by rw[zKg];exact zBf fun j _=>by simp
theorem zXw(n d:Nat):zIn d (n+1)=zFf n d:=zBf fun j _=>by
 unfold dd;by_cases h:j≤n
 · rw[if_pos h,if_pos (by omega)]
 · rw[if_neg h,if_neg (by omega)]
theorem zTm(d:Nat){k:Nat}(h:k<25):(zIn d k).set k (d+1)=zIn d (k+1):=by
 rw[zIn,zM8 _ _ h];refine zBf fun j _=>?_
 by_cases h1:j=k
 · subst h1;simp
 · rw[if_neg h1]
   by_cases h2:j<k
   · rw[if_pos h2,if_pos (by omega)]
   · rw[if_neg h2,if_neg (by omega)]
theorem lev_set{w:World}{p k x:Nat}{v:Value}{bs:List Nat}{t:TypeId}{f:Nat×Nat}(h:w.heap[p]?=some (.cells (levC v bs) t f)):(w.setCell ⟨p,1+k,none⟩ (bv x)).heap[p]?=some (.cells (levC v (bs.set k x)) t f):=by
 simp only[World.setCell,Array.getElem?_modify,h];simp[levC,List.map_set,Nat.add_comm 1 k]
def zYz(w w':World)(l:List UInt8)(e:Int)(v:Value)(c:Int):Prop:=
 Below w.heap.size w w'∧((rightB l e=false∧v = .pointer none∧c=110)∨(rightB l e=true∧c=0∧∃p xs d,v = .pointer (some ⟨p,0,none⟩)∧w.heap.size≤p∧rs l=some xs∧e=(d:Nat)∧LevAt w' p xs d))
theorem zYv(s:ByteArray)(xs:List Int)(w:World)(ht:Tabs w)(hm:s.size≤9223372036854775807)(hroom:Room s.data.toList)(hx:rs s.data.toList=some xs):
 Calls Tryz.prog 73 #[.string s] w fun e w'=>∃v,e = .returned (.tuple #[v,.bool true])∧Below w.heap.size w w'∧Made w.heap.size w' v xs:=by
 refine(zGe s w ht hm hroom).mono ?_;rintro e w' ⟨v,hb,⟨hno,_,_⟩|⟨ys,hys,rfl,hmade⟩⟩
 · rw[hno]at hx;cases hx
 · obtain rfl:ys=xs:=Option.some.inj (hys.symm.trans hx)
   exact⟨v,rfl,hb,hmade⟩
attribute [local go_sem ↓] zNp zTi
attribute [local go_sem] zS9
theorem New_any(s:ByteArray)(e:Int)(w:World)(ht:Tabs w)(hm:s.size≤9223372036854775807):
 Calls Tryz.prog 59 #[.string s,.int .i64 e] w fun x w'=>∃v c,x = .returned (.tuple #[v,.int .i64 c])∧zYz w w' s.data.toList e v c:=by
 by_cases hr:rightB s.data.toList e=true
 · have HR:Hid (rightB s.data.toList e=true):=hr
   have hh:=hr;simp only[rightB,Bool.and_eq_true,decide_eq_true_eq]at hh;obtain⟨⟨hw,h0⟩,h3⟩:=hh;have HWD:Hid (zAq s.data.toList=true):=hw;obtain⟨xs,hxs,hx1,hx24⟩:=zOn hw;have HXS:Hid (rs s.data.toList=some xs):=hxs;have HROOM:Hid (Room s.data.toList):=zCg hxs (by omega);obtain⟨d,rfl⟩:∃d:Nat,e=(d:Int):=⟨e.toNat,by omega⟩;clear hr hw hxs;go_enter Tryz.func59,Tryz.ntmps59;(go_upto_region 3 with(go_at_call 28;refine(zCa s _ ht hm).mono ?_;rintro e w1 ⟨rfl,hw1⟩;rw[HWD.out]));(have hb1:Below w.heap.size w w1:=by obtain⟨n,rfl⟩:=hw1;exact below_drewN (Below.refl _ _) n);have ht1:Tabs w1:=ht.below hb1;clear hw1;(go_upto_region 4 with(go_at_call 73;refine(zYv s xs _ ht1 hm HROOM.out HXS.out).mono ?_;rintro e w2 ⟨v,rfl,hb2,hmade⟩));have hb12:Below w.heap.size w w2:=hb1.trans (hb2.mono hb1.size);have HX2:Hid (RunesAt w2.heap.size w2 v xs):=hmade.runesE;obtain⟨ad,cap,rfl⟩:=HX2.out.form;have hbl:=bldL_at ad xs.length cap w2;have HP3:Hid ((w2.alloc (.cells (levC (.slice ad xs.length cap) zeros) 165)).heap[w2.heap.size]?=some (.cells (levC (.slice ad xs.length cap) zeros) 165 (0,0))):=zBm _ _;have HB3:Hid (Below w.heap.size w (w2.alloc (.cells (levC (.slice ad xs.length cap) zeros) 165))):=hb12.alloc hb12.size _;have HBB:Hid (Below w2.heap.size w2 (w2.alloc (.cells (levC (.slice ad xs.length cap) zeros) 165))):=(Below.refl _ _).alloc (Nat.le_refl _) _;have HX3:Hid (RunesAt w2.heap.size (w2.alloc (.cells (levC (.slice ad xs.length cap) zeros) 165)) (.slice ad xs.length cap) xs):=HX2.out.below HBB.out;have HBS:Hid (w.heap.size≤w2.heap.size):=hb12.size;clear hmade hb1 ht1 hb2 hb12 HX2 HBB;obtain⟨N,hN⟩:∃N,N=xs.length+1:=⟨_,rfl⟩;have HN:Hid (N=xs.length+1):=hN;(have hwN:IntKind.i64.wrap ((xs.length:Int)+1)=(N:Int):=by rw[IntKind.wrap_i64];omega);(have hwd:IntKind.u8.wrap (d:Int)=(d:Int):=by rw[IntKind.wrap_u8];omega);(have hwd1:IntKind.u8.wrap ((d:Int)+1)=(d:Int)+1:=by rw[IntKind.wrap_u8];omega);clear hN;go_wp2_with fail
   go_loopw [32] (fun v wr=>∃k:Nat,v = .int .i64 k∧k≤N∧wr.heap[w2.heap.size]?=some (.cells (levC (.slice ad xs.length cap) (zIn d k)) 165 (0,0))∧RunesAt w2.heap.size wr (.slice ad xs.length cap) xs∧Below w.heap.size w wr) (fun v _=>N-(intOf v).toNat)
   case atStart=>exact⟨0,rfl,Nat.zero_le _,by rw[zTl];exact HP3.out,HX3.out,HB3.out⟩
   case round=>
    clear HP3 HX3 HB3;obtain⟨k,rfl,hk,hP,hX,hB⟩:=hrel;have HP:Hid (wr.heap[w2.heap.size]?=some (.cells (levC (.slice ad xs.length cap) (zIn d k)) 165 (0,0))):=hP;have HX:Hid (RunesAt w2.heap.size wr (.slice ad xs.length cap) xs):=hX;have HB:Hid (Below w.heap.size w wr):=hB;have hwr:w2.heap.size<wr.heap.size:=(Array.getElem?_eq_some_iff.1 hP).1;by_cases hk8:k<N
    · have hk25:k<25:=by have:=HN.out;omega
      have hcell:wr.cell? ⟨w2.heap.size,1+k,none⟩=some (bv ((zIn d k).getD k 0)):=by
       have:=zFz hP k (bv ((zIn d k).getD k 0)) (by rw[List.getElem?_map,zIn,zH7 _ hk25,zDq _ hk25];rfl);simpa using this
      (have hfz:wr.frozen? ⟨w2.heap.size,1+k,none⟩=false:=by simp[World.frozen?,hP]);obtain⟨y,hy⟩:∃y,(zIn d k).getD k 0=y:=⟨_,rfl⟩;rw[hy]at hcell;clear hP hX hB hy hbl;go_wp2_with fail
      go_roundw
      case rel=>
       refine⟨k+1,by go_num,by omega,?_,HX.out.below ((Below.refl w2.heap.size wr).setCell (p:=⟨w2.heap.size,1+k,none⟩) (Nat.le_refl _) _),HB.out.setCell HBS.out _⟩;rw[←zTm _ hk25];exact lev_set HP.out
      case measure=>simp[intOf];omega
    · obtain rfl:k=N:=by omega
      have HL:Hid (LevAt wr w2.heap.size xs d):=by
       refine⟨hx24,by omega,ad,cap,?_,hX.mono (by omega)⟩;rw[HN.out,zXw]at hP;exact hP
      clear hP hX hB HP HX;go_wp2_with fail;go_ret2;exact⟨_,_,rfl,HB.out,.inr ⟨HR.out,rfl,_,xs,d,rfl,HBS.out,HXS.out,rfl,HL.out⟩⟩
 · have HR:Hid (rightB s.data.toList e=false):=by unfold Hid;simpa using hr
   clear hr;by_cases hw:zAq s.data.toList=true
   · have HWD:Hid (zAq s.data.toList=true):=hw
     have hne:¬(0≤e∧e≤3):=by
      intro hh;have:=HR.out;simp[rightB,hw,hh]at this
     clear hw;by_cases h0:e<0
     · go_enter Tryz.func59,Tryz.ntmps59
       go_wp2_with (go_at_call 28;refine(zCa s _ ht hm).mono ?_;rintro e w1 ⟨rfl,hw1⟩;rw[HWD.out]);go_ret2;exact⟨_,_,rfl,by obtain⟨n,rfl⟩:=hw1;exact below_drewN (Below.refl _ _) n,.inl ⟨HR.out,rfl,rfl⟩⟩
     · have h3:3<e:=by omega
       go_enter Tryz.func59,Tryz.ntmps59;go_wp2_with (go_at_call 28;refine(zCa s _ ht hm).mono ?_;rintro e w1 ⟨rfl,hw1⟩;rw[HWD.out]);go_ret2;exact⟨_,_,rfl,by obtain⟨n,rfl⟩:=hw1;exact below_drewN (Below.refl _ _) n,.inl ⟨HR.out,rfl,rfl⟩⟩
   · have HWD:Hid (zAq s.data.toList=false):=by unfold Hid;simpa using hw
     clear hw;go_enter Tryz.func59,Tryz.ntmps59;go_wp2_with (go_at_call 28;refine(zCa s _ ht hm).mono ?_;rintro e w1 ⟨rfl,hw1⟩;rw[HWD.out]);go_ret2;exact⟨_,_,rfl,by obtain⟨n,rfl⟩:=hw1;exact below_drewN (Below.refl _ _) n,.inl ⟨HR.out,rfl,rfl⟩⟩
attribute [local go_sem ↓] zA8 zCl zAz zA7
attribute [local go_sem] zEp
theorem Dist_any(p:Nat)(xs:List Int)(d:Nat)(s:List Nat)(w:World)(h:LevAt w p xs d)(hs:s.length=25):
 Calls Tryz.prog 92 #[.pointer (some ⟨p,0,none⟩),rV s] w fun e w'=>e = .returned (.tuple #[.int .i64 (zNw xs.length d s:Int),.bool (zJc xs.length d s)])∧Below w.heap.size w w':=by
 obtain⟨hn,hd,ad,cap,hp,hr⟩:=h;have hpl:p<w.heap.size:=(Array.getElem?_eq_some_iff.1 hp).1;obtain⟨w2,hw2⟩:∃w2,w.alloc (.cells (rC s) 133)=w2:=⟨_,rfl⟩;have A2:RAt w2 w.heap.size s:=hw2▸RAt.new w _;have B2:Below w.heap.size w w2:=hw2▸(Below.refl _ w).alloc (Nat.le_refl _) _;have HW:Hid (w.alloc (.cells (rC s) 133)=w2):=hw2;have hp2:=(B2.block p hpl).trans hp;have hc1:=zRg hp2;have hc2:=lev_dead hp2 (j:=xs.length) (by omega);rw[dd,if_pos (Nat.le_refl _)]at hc2;have hc3:=A2.cell (i:=xs.length) (by omega);obtain⟨y,hy⟩:∃y,s.getD xs.length 0=y:=⟨_,rfl⟩;rw[hy]at hc3;have HB2:Hid (Below w.heap.size w w2):=B2;have HDN:Hid (zNw xs.length d s=if y≤d then y else 0):=by unfold Hid zNw;rw[hy]
 have HDB:Hid (zJc xs.length d s=decide (y≤d)):=by unfold Hid zJc;rw[hy]
 have hx25:(xs.length:Int)<25:=by omega
 have hcast:((d+1:Nat):Int)=(d:Int)+1:=by omega
 unfold bv at hc2 hc3;rw[hcast]at hc2;clear hw2 A2 B2 hp hr hp2 hy hcast;by_cases hyd:y≤d
 · have hcmp:¬((d:Int)+1≤(y:Int)):=by omega
   go_enter Tryz.func92,Tryz.ntmps92;(go_upto_region 1 with fail);rw[HW.out];(go_upto_region 2 with fail);go_quiet (fail);go_wp2_with fail;go_ret2;exact⟨by rw[HDN.out,HDB.out,if_pos hyd,decide_eq_true hyd];rfl,below_drewN HB2.out _⟩
 · have hcmp:(d:Int)+1≤(y:Int):=by omega
   go_enter Tryz.func92,Tryz.ntmps92;(go_upto_region 1 with fail);rw[HW.out];(go_upto_region 2 with fail);go_quiet (fail);go_wp2_with fail;go_ret2;exact⟨by rw[HDN.out,HDB.out,if_neg hyd,decide_eq_false hyd];rfl,below_drewN HB2.out _⟩
theorem zY2(p:Nat)(xs:List Int)(d:Nat)(s:List Nat)(w:World)(h:LevAt w p xs d)(hs:s.length=25):
 Calls Tryz.prog 95 #[.pointer (some ⟨p,0,none⟩),rV s] w fun e w'=>e = .returned (.bool (zC5 xs.length d s))∧Below w.heap.size w w':=by
 have HL:Hid (LevAt w p xs d):=h;obtain⟨hn,hd,ad,cap,hp,hr⟩:=h;have hpl:p<w.heap.size:=(Array.getElem?_eq_some_iff.1 hp).1;obtain⟨w2,hw2⟩:∃w2,w.alloc (.cells (rC s) 133)=w2:=⟨_,rfl⟩;have A2:Hid (RAt w2 w.heap.size s):=hw2▸RAt.new w _;have B2:Hid (Below w.heap.size w w2):=hw2▸(Below.refl _ w).alloc (Nat.le_refl _) _;have HW:Hid (w.alloc (.cells (rC s) 133)=w2):=hw2;have L2:Hid (LevAt w2 p xs d):=HL.out.below B2.out;have hsz:w.heap.size<w2.heap.size:=A2.out.lt;have HPW:Hid (∀W,Below w.heap.size w W→zGs Tryz.prog (.pointer (some ⟨p,1,none⟩)) W = .ok (rV (zFf xs.length d)) W):=fun W hW=>zBl (zFz ((hW.block p hpl).trans hp)) (zEh xs.length d)
 clear hw2 hp hr;go_enter Tryz.func95,Tryz.ntmps95;go_upto_region 1 with fail
 rw[HW.out];have hS0:zGs Tryz.prog (.pointer (some ⟨p,1,none⟩)) w2.drew = .ok (rV (zFf xs.length d)) w2.drew∧zGs Tryz.prog (.pointer (some ⟨w.heap.size,0,none⟩)) w2.drew = .ok (rV s) w2.drew:=⟨HPW.out _ B2.out.drew,zBl (RAt.range (w:=w2.drew) A2.out) hs⟩;refine zAh (S:=fun W'=>zGs Tryz.prog (.pointer (some ⟨p,1,none⟩)) W' = .ok (rV (zFf xs.length d)) W'∧zGs Tryz.prog (.pointer (some ⟨w.heap.size,0,none⟩)) W' = .ok (rV s) W') 9 rfl zAr hS0 (fun _=>?_);refine tq id 0 5 ?_;simp only[sZa,sZb,sZc];refine tk (i:=1) (v:=rV s) 6 rfl rfl (by kernel_rfl) (fun w hSw=>by(have h2:=hSw.2;exact(zAz _ (.tmp 3) _ _ _ _ _ _).trans (congrArg (fun z=>Result.andThen z (fun v w'=>Result.ok (Next.value v) w')) h2))) ?_;simp only[sZa,sZb,sZc];refine tq2 id 3 8 4 9 ?_;simp only[sZa,sZb,sZc];refine tq id 5 10 ?_;simp only[sZa,sZb,sZc];refine tk (i:=6) (v:=rV (zFf xs.length d)) 11 rfl rfl (by kernel_rfl) (fun w hSw=>by(have h2:=hSw.1;exact(zAz _ (.tmp 10) _ _ _ _ _ _).trans (congrArg (fun z=>Result.andThen z (fun v w'=>Result.ok (Next.value v) w')) h2))) ?_;simp only[sZa,sZb,sZc];refine oc 2 w2.drew 7 98 #[.pointer (some ⟨p,0,none⟩),rV s] ?_;refine(zLu p xs d s w2.drew (L2.out.below (Below.refl _ w2).drew) hs).mono ?_;rintro e w3 ⟨rfl,hb3⟩;have B3:Below w.heap.size w w3:=B2.out.drew.trans (hb3.mono (by show w.heap.size≤w2.heap.size;omega));have hS3:zGs Tryz.prog (.pointer (some ⟨p,1,none⟩)) w3 = .ok (rV (zFf xs.length d)) w3∧zGs Tryz.prog (.pointer (some ⟨w.heap.size,0,none⟩)) w3 = .ok (rV s) w3:=⟨HPW.out _ B3,zBl (RAt.range (RAt.below (w:=w2.drew) (w':=w3) (B:=w2.heap.size) A2.out (by omega) hb3)) hs⟩;refine⟨_,rfl,hS3,fun _=>?_⟩;simp only[sZa,sZb,sZc];refine zAo (i:=7) (v := .bool (zC5 xs.length d s)) (w':=w3) 12 (by kernel_rfl) rfl rfl (by rfl) ?_ hS3 (fun _=>?_)
 · have hb1:∀x∈cutL xs.length d s,x<256:=zVy fun j _=>by have:=zXz xs.length d s j;omega
   (have hb2:∀x∈zFf xs.length d,x<256:=zVy fun j _=>by have:=dd_le xs.length d j;omega);have hq:=neq_row (zDu xs.length d s) (zEh xs.length d) hb1 hb2 w3;have hg:=zXb .neq (.tmp 7) (.tmp 11) (cutL xs.length d s) (zFf xs.length d) w3;go_simp;rw[zC5,Bool.not_not]
 simp only[sZa,sZb,sZc];refine zAo (i:=8) (v := .bool (zC5 xs.length d s)) (w':=w3) 4 (by kernel_rfl) rfl rfl (by rfl) (by kernel_rfl) hS3 (fun _=>?_);simp only[sZa,sZb,sZc];refine wpAnyH_done (by kernel_rfl) ?_ _;clear hS0 hS3;go_wp2_with fail;go_ret;exact⟨rfl,B3⟩
end
