import Derived.Test.YtobjpljdgieklaaGreatDoorJ32
import Derived.Test.YtobjpljdgieklaaGreatDoorJ26
import Derived.Test.YtobjpljdgieklaaGreatDoorJ30
import Derived.Test.YtobjpljdgieklaaGreatDoorJ20
import Derived.Sort.Grow
import Derived.Sort.Statements
import Derived.Shelf.SlSortCmp.Insertion
import Derived.Test.YtobjpljdgieklaaGreatDoorJ7
import Derived.Test.YtobjpljdgieklaaGreatDoorJ24
import Derived.LoopIn
import Derived.TacticsInMore
import Derived.OwnWalkIn
set_option maxRecDepth 100000
namespace Go.Proofs.YtobjpljdgieklaaGreatDoor
section
open Go.RowKit Nums Fm Pk
structure SLn(wb g off k:Nat)(ws:Value)(c:Nat)(W:World):Prop where
 c2:W.cell? ⟨wb,2,none⟩=some ws
 cx:W.cell? ⟨g,off+k,none⟩=some (.int .i64 (c:Int))
theorem SLn.facts{wb g off k:Nat}{ws:Value}{c:Nat}{W:World}(h:SLn wb g off k ws c W):W.cell? ⟨wb,2,none⟩=some ws∧W.cell? ⟨g,off+k,none⟩=some (.int .i64 (c:Int)):=⟨h.1,h.2⟩
set_option maxHeartbeats 2000000 in
theorem Len_any(E:Nat)(w:World)(wb:Nat)(base:Int)(m:List RSt)(cs:List Nat)(h:WkAt E w wb base m cs)(hcs:cs.length=m.length):
 Calls Tryz.prog 58 #[.pointer (some ⟨wb,0,none⟩)] w fun e w'=>e = .returned (.int .i64 ((cs.getD (m.length-1) 0:Nat):Int))∧Below w.heap.size w w':=by
 have HRT:Hid (∀W,WkAt E W wb base m cs→Calls Tryz.prog 70 #[.pointer (some ⟨wb,0,none⟩)] W fun e w'=>e = .returned (.int .i64 ((m.length:Int)-1))∧w'=W):=fun W hW=>zHk E W wb base m cs hW
 by_cases h0:m=[]
 · subst h0
   have HH:Hid (WkAt E w wb base [] cs):=h;have HC:Hid (cs=[]):=List.eq_nil_of_length_eq_zero hcs;clear h hcs;go_enter Tryz.func58,Tryz.ntmps58;go_wp2_with (go_at_call 70;refine(HRT.out _ HH.out).mono ?_;rintro e w1 ⟨rfl,hw1⟩;rw[hw1];clear hw1);go_ret;exact⟨by rw[HC.out];rfl,Below.refl _ _⟩
 · have hpos:=List.length_pos_iff.2 h0
   obtain⟨sd,sc,wd,wc,c0,c1,c2,hS,hG⟩:=h.facts;obtain⟨k,hk⟩:∃k,m.length=k+1:=⟨m.length-1,by omega⟩;obtain⟨c,hc⟩:∃c,cs[k]?=some c:=⟨cs[k]'(by omega),List.getElem?_eq_getElem _⟩;obtain⟨g,off,rfl,hg,cx⟩:=hG.num hc;have hl:=hS.len;have HW:Hid (WkAt E w wb base m cs):=h;have HWd:Hid (WkAt E w.drew wb base m cs):=h.below (Below.refl _ w).drew;have hS0:SLn wb g off k (.slice (some ⟨g,off,none⟩) cs.length wc) c w.drew:=⟨c2,cx⟩;have HCC:Hid (cs.getD (m.length-1) 0=c):=by
    show _=_;rw[hk,Nat.add_sub_cancel,List.getD_eq_getElem?_getD,hc];rfl
   have HBW:Hid (Below w.heap.size w w.drew):=(Below.refl _ w).drew;rw[hcs,hk]at hS0;rw[hk]at HRT;(have hkz:((k+1:Nat):Int)-1=(k:Int):=by omega);rw[hkz]at HRT;(have hl2:k+1≤9223372036854775807:=by omega);(have hkz2:(k:Int)<(k:Int)+1:=by omega);clear hG hS c0 c1 c2 cx h hl;go_enter Tryz.func58,Tryz.ntmps58;(go_upto_region 3 with(go_at_call 70;refine(HRT.out _ HW.out).mono ?_;rintro e w1 ⟨rfl,hw1⟩;rw[hw1];clear hw1));refine zAe (S:=SLn wb g off k (.slice (some ⟨g,off,none⟩) (k+1) wc) c) 9 rfl zAr hS0 (fun _=>?_);refine tq4 SLn.facts 0 6 1 7 2 8 3 9 ?_;simp only[sZa,sZb,sZc];refine tq SLn.facts 4 10 ?_;simp only[sZa,sZb,sZc];refine zAh (i:=5) (w0:=w.drew) 11 70 #[.pointer (some ⟨wb,0,none⟩)] (by kernel_rfl) rfl rfl (by rfl) (by kernel_rfl) ?_;refine(HRT.out _ HWd.out).mono ?_;rintro e w1 ⟨rfl,hw1⟩;subst hw1;refine⟨_,rfl,hS0,fun _=>?_⟩;simp only[sZa,sZb,sZc];refine tq2 SLn.facts 6 12 7 13 ?_;simp only[sZa,sZb,sZc];refine tq SLn.facts 8 2 ?_;simp only[sZa,sZb,sZc];clear hkz2;refine wpAnyH_done (by kernel_rfl) ?_ _;clear hS0;go_wp2;go_ret;exact⟨by rw[HCC.out];rfl,HBW.out⟩
end
namespace Pk
def cmpI(a b:Int):Int:=if a<b then -1 else if b<a then 1 else 0
def orI:List Int→Int
 |[]=>0
 |c::r=>if c≠0 then c else orI r
def cmpA(x y:RArc):Int:=orI [cmpI x.label y.label,cmpI x.out y.out,cmpI x.to y.to]
def cmpL:List RArc→List RArc→Int
 |[],[]=>0
 |[],_::_ => -1
 |_::_,[]=>1
 |x::xs,y::ys=>if cmpA x y≠0 then cmpA x y else cmpL xs ys
def zBv(s:RSt):Int:=2*s.arcs.length+(if s.final then 1 else 0)
def cmpH(s t:RSt):Int:=orI [cmpI (zBv s) (zBv t),cmpI s.out t.out]
def cmpS(s t:RSt):Int:=if cmpH s t≠0 then cmpH s t else cmpL s.arcs t.arcs
structure Ord3{α:Type}(c:α→α→Int):Prop where
 eq:∀x y,c x y=0↔x=y
 anti:∀x y,c x y<0↔0<c y x
 tr:∀x y z,c x y<0→c y z<0→c x z<0
theorem zFx:Ord3 cmpI:=by
 refine⟨fun x y=>?_,fun x y=>?_,fun x y z=>?_⟩<;>unfold cmpI
 · repeat' split
   all_goals omega
 · repeat' split
   all_goals omega
 · repeat' split
   all_goals omega
theorem Ord3.then{α β γ:Type}{c:α→α→Int}{d:β→β→Int}(hc:Ord3 c)(hd:Ord3 d)(p:γ→α)(q:γ→β)(inj:∀x y,p x=p y→q x=q y→x=y):Ord3 fun x y:γ=>if c (p x) (p y)≠0 then c (p x) (p y)else d (q x) (q y):=by
 have c0:∀x y,c x y=0↔c y x=0:=fun x y=>by rw[hc.eq,hc.eq];exact eq_comm
 refine⟨fun x y=>?_,fun x y=>?_,fun x y z=>?_⟩
 · split
   · rename_i h
     exact⟨fun e=>absurd e h,fun e=>absurd ((hc.eq _ _).2 (congrArg p e)) h⟩
   · rename_i h
     have h':c (p x) (p y)=0:=Decidable.byContradiction h;exact⟨fun e=>inj x y ((hc.eq _ _).1 h') ((hd.eq _ _).1 e),fun e=>(hd.eq _ _).2 (congrArg q e)⟩
 · by_cases h:c (p x) (p y)=0
   · rw[if_neg (fun hn=>hn h),if_neg (fun hn=>hn ((c0 _ _).1 h))]
     exact hd.anti _ _
   · rw[if_pos h,if_pos (fun hn=>h ((c0 _ _).2 hn))]
     exact hc.anti _ _
 · by_cases h1:c (p x) (p y)=0
   · have e1:=(hc.eq _ _).1 h1
     rw[if_neg (fun hn=>hn h1)];by_cases h2:c (p y) (p z)=0
     · have e2:=(hc.eq _ _).1 h2
       rw[if_neg (fun hn=>hn h2),e1,if_neg (fun hn=>hn h2)];exact hd.tr _ _ _
     · rw[if_pos h2,e1,if_pos h2]
       exact fun _ h=>h
   · rw[if_pos h1]
     by_cases h2:c (p y) (p z)=0
     · have e2:=(hc.eq _ _).1 h2
       rw[if_neg (fun hn=>hn h2),←e2,if_pos h1];exact fun h _=>h
     · rw[if_pos h2]
       intro g1 g2;have:=hc.tr _ _ _ g1 g2;rw[if_pos (by omega)];exact this
theorem cmpA_ord:Ord3 cmpA:=by
 have h:=Ord3.then (γ:=RArc) zFx (Ord3.then (γ:=Int×Int) zFx zFx (·.1) (·.2) (fun x y h1 h2=>Prod.ext h1 h2)) (·.label) (fun a=>(a.out,a.to)) (fun x y h1 h2=>by
  cases x;cases y;simp only[Prod.mk.injEq]at h1 h2;rw[h1,h2.1,h2.2])
 have e:cmpA=fun x y:RArc=>if cmpI x.label y.label≠0 then cmpI x.label y.label else if cmpI x.out y.out≠0 then cmpI x.out y.out else cmpI x.to y.to:=by
  funext x y;unfold cmpA orI orI orI orI;by_cases h1:cmpI x.label y.label=0
  · by_cases h2:cmpI x.out y.out=0
    · by_cases h3:cmpI x.to y.to=0<;>simp[h1,h2,h3]
    · simp[h1,h2]
  · simp[h1]
 rw[e];exact h
theorem zW1:∀x y,cmpL x y=0↔x=y
 |[],[]=>by simp[cmpL]
 |[],_::_=>by simp[cmpL]
 |_::_,[]=>by simp[cmpL]
 |x::xs,y::ys=>by
  rw[cmpL];by_cases h:cmpA x y=0
  · rw[if_neg (fun hn=>hn h),zW1 xs ys,(cmpA_ord.eq _ _).1 h]
    simp
  · rw[if_pos h]
    exact⟨fun e=>absurd e h,fun e=>absurd ((cmpA_ord.eq _ _).2 (List.cons.inj e).1) h⟩
theorem zNi:∀x y,cmpL x y<0↔0<cmpL y x
 |[],[]=>by simp[cmpL]
 |[],_::_=>by simp[cmpL]
 |_::_,[]=>by simp[cmpL]
 |x::xs,y::ys=>by
  rw[cmpL,cmpL];have c0:cmpA x y=0↔cmpA y x=0:=by rw[cmpA_ord.eq,cmpA_ord.eq];exact eq_comm
  by_cases h:cmpA x y=0
  · rw[if_neg (fun hn=>hn h),if_neg (fun hn=>hn (c0.1 h))]
    exact zNi xs ys
  · rw[if_pos h,if_pos (fun hn=>h (c0.2 hn))]
    exact cmpA_ord.anti _ _
theorem zWz:∀x y z,cmpL x y<0→cmpL y z<0→cmpL x z<0
 |[],[],_,h,_=>by simp[cmpL]at h
 |[],_::_,[],_,h=>by simp[cmpL]at h
 |[],_::_,_::_,_,_=>by simp[cmpL]
 |_::_,[],_,h,_=>by simp[cmpL]at h
 |_::_,_::_,[],_,h=>by simp[cmpL]at h
 |x::xs,y::ys,z::zs,h1,h2=>by
  rw[cmpL]at h1 h2 ⊢;by_cases g1:cmpA x y=0
  · have e1:=(cmpA_ord.eq _ _).1 g1
    rw[if_neg (fun hn=>hn g1)]at h1;subst e1;by_cases g2:cmpA x z=0
    · rw[if_neg (fun hn=>hn g2)]at h2 ⊢
      exact zWz xs ys zs h1 h2
    · rw[if_pos g2]at h2 ⊢
      exact h2
  · rw[if_pos g1]at h1
    by_cases g2:cmpA y z=0
    · have e2:=(cmpA_ord.eq _ _).1 g2
      subst e2;rw[if_pos g1];exact h1
    · rw[if_pos g2]at h2
      have:=cmpA_ord.tr _ _ _ h1 h2;rw[if_pos (by omega)];exact this
theorem cmpL_ord:Ord3 cmpL:=⟨zW1,zNi,zWz⟩
theorem cmpS_ord:Ord3 cmpS:=by
 have hh:Ord3 fun x y:Int×Int=>if cmpI x.1 y.1≠0 then cmpI x.1 y.1 else cmpI x.2 y.2:=Ord3.then zFx zFx (·.1) (·.2) (fun x y h1 h2=>Prod.ext h1 h2)
 have h:=Ord3.then (γ:=RSt) hh cmpL_ord (fun s=>(zBv s,s.out)) (·.arcs) (fun x y h1 h2=>by
  simp only[Prod.mk.injEq]at h1;obtain⟨h3,h4⟩:=h1;unfold zBv at h3;rw[h2]at h3;cases x with
  |mk f1 o1 a1=>
   cases y with
   |mk f2 o2 a2=>
    simp only at h2 h3 h4;subst h2 h4;cases f1<;>cases f2<;>simp at h3 ⊢<;>omega)
 have e:cmpS=fun s t:RSt=>if (if cmpI (zBv s) (zBv t)≠0 then cmpI (zBv s) (zBv t)else cmpI s.out t.out)≠0 then (if cmpI (zBv s) (zBv t)≠0 then cmpI (zBv s) (zBv t)else cmpI s.out t.out)else cmpL s.arcs t.arcs:=by
  funext s t;have eh:cmpH s t=if cmpI (zBv s) (zBv t)≠0 then cmpI (zBv s) (zBv t)else cmpI s.out t.out:=by
   unfold cmpH orI orI orI;by_cases h1:cmpI (zBv s) (zBv t)=0
   · by_cases h2:cmpI s.out t.out=0<;>simp[h1,h2]
   · simp[h1]
  unfold cmpS;rw[eh]
 rw[e];exact h
end Pk
section
open Go.RowKit Nums Fm Pk
structure Gr(w w':World):Prop where
 bel:Below w.heap.size w w'
 dr:w.drawn≤w'.drawn
theorem Gr.refl(w:World):Gr w w:=⟨Below.refl _ _,Nat.le_refl _⟩
theorem Gr.trans{w w1 w2:World}(h1:Gr w w1)(h2:Gr w1 w2):Gr w w2:=⟨h1.bel.trans (h2.bel.mono h1.bel.size),Nat.le_trans h1.dr h2.dr⟩
theorem Gr.alloc{w w1:World}(h:Gr w w1)(o:Obj):Gr w (w1.alloc o):=⟨h.bel.alloc h.bel.size o,h.dr⟩
theorem Gr.drew{w w1:World}(h:Gr w w1):Gr w w1.drew:=⟨h.bel.drew,Nat.le_trans h.dr (Nat.le_succ _)⟩
theorem Gr.grown{w w':World}(h:Gr w w'):∃q os,w'=Go.Sort.grow (w.drewN q) os:=by
 refine⟨w'.drawn-w.drawn,w'.heap.extract w.heap.size w'.heap.size,?_⟩;have hh:w'.heap=w.heap++w'.heap.extract w.heap.size w'.heap.size:=by
  have hs:=h.bel.size;refine Array.ext ?_ fun i h1 h2=>?_
  · simp;omega
  · by_cases hi:i<w.heap.size
    · rw[Array.getElem_append_left hi]
      have e:=h.bel.block i hi;rw[Array.getElem?_eq_getElem h1,Array.getElem?_eq_getElem hi]at e;exact Option.some.inj e
    · rw[Array.getElem_append_right (by omega),Array.getElem_extract]
      congr 1;omega
 have hd:w'.drawn=w.drawn+(w'.drawn-w.drawn):=by have:=h.dr;omega
 cases w' with
 |mk heap tape drawn os output=>
  have e1:=h.bel.os;have e2:=h.bel.tape;have e3:=h.bel.output;simp only at e1 e2 e3 hh hd;simp only[Go.Sort.grow,World.drewN,World.mk.injEq];exact⟨hh,e2,hd,e1,e3⟩
theorem cmpU_any(x y:Int)(w:World):Calls Tryz.prog 171 #[.int .u64 x,.int .u64 y] w fun e w'=>e = .returned (.int .i64 (cmpI x y))∧w'=w:=by
 unfold cmpI;go_enter Tryz.func171,Tryz.ntmps171;by_cases h1:x<y
 · rw[if_pos h1]
   go_wp2;go_ret;exact⟨rfl,rfl⟩
 · rw[if_neg h1]
   by_cases h2:y<x
   · rw[if_pos h2]
     go_wp2;go_ret;exact⟨rfl,rfl⟩
   · rw[if_neg h2]
     go_wp2;go_ret;exact⟨rfl,rfl⟩
theorem zLr(x y:Int)(w:World):Calls Tryz.prog 173 #[.int .i64 x,.int .i64 y] w fun e w'=>e = .returned (.int .i64 (cmpI x y))∧w'=w:=by
 unfold cmpI;go_enter Tryz.func173,Tryz.ntmps173;by_cases h1:x<y
 · rw[if_pos h1]
   go_wp2;go_ret;exact⟨rfl,rfl⟩
 · rw[if_neg h1]
   by_cases h2:y<x
   · rw[if_pos h2]
     go_wp2;go_ret;exact⟨rfl,rfl⟩
   · rw[if_neg h2]
     go_wp2;go_ret;exact⟨rfl,rfl⟩
theorem zRe(x y:Int)(w:World):Calls Tryz.prog 111 #[.int .i32 x,.int .i32 y] w fun e w'=>e = .returned (.int .i64 (cmpI x y))∧w'=w:=by
 unfold cmpI;go_enter Tryz.func111,Tryz.ntmps111;by_cases h1:x<y
 · rw[if_pos h1]
   go_wp2;go_ret;exact⟨rfl,rfl⟩
 · rw[if_neg h1]
   by_cases h2:y<x
   · rw[if_pos h2]
     go_wp2;go_ret;exact⟨rfl,rfl⟩
   · rw[if_neg h2]
     go_wp2;go_ret;exact⟨rfl,rfl⟩
namespace Pk
theorem orI_at{l:List Int}{k:Nat}{c:Int}(h:l[k]?=some c):orI (l.drop k)=if c≠0 then c else orI (l.drop (k+1)):=by
 obtain⟨hk,rfl⟩:=List.getElem?_eq_some_iff.1 h;rw[List.drop_eq_getElem_cons hk,orI]
end Pk
set_option maxHeartbeats 1000000 in
theorem or_any(g n c:Nat)(l:List Int)(w:World)(hn:l.length=n)(hl:n≤4096)(hc:∀(i:Nat) (x:Int),l[i]?=some x→w.cell? ⟨g,i,none⟩=some (.int .i64 x)):
 Calls Tryz.prog 170 #[.slice (some ⟨g,0,none⟩) n c] w fun e w'=>e = .returned (.int .i64 (orI l))∧w'=w:=by
 have HC:Hid (∀(i:Nat) (x:Int),l[i]?=some x→w.cell? ⟨g,i,none⟩=some (.int .i64 x)):=hc;have HN:Hid (l.length=n):=hn;clear hc hn;go_enter Tryz.func170,Tryz.ntmps170;go_wp2
 go_loopg [5,8] n (fun gm _ s8 wr=>∃(k:Nat),s8 = .int .i64 k∧k≤n∧n-k≤gm∧Hid (orI l=orI (l.drop k))∧wr=w)
 case atStart=>exact⟨0,rfl,Nat.zero_le _,by omega,rfl,rfl⟩
 case round=>
  obtain⟨k,rfl,hk,hgm,HO,rfl⟩:=hrel;by_cases hlt:k<n
  · have hltz:(k:Int)<(n:Int):=by omega
    obtain⟨x,hx⟩:∃x,l[k]?=some x:=⟨l[k]'(by have:=HN.out;omega),List.getElem?_eq_getElem _⟩;have hcx:=HC.out k x hx;have HOA:Hid (orI l=if x≠0 then x else orI (l.drop (k+1))):=HO.out.trans (orI_at hx);clear hx;by_cases h0:x=0
    · subst h0
      have HF:Hid (orI l=orI (l.drop (k+1))):=HOA.out;go_wp2;go_roundg (n-(k+1));(case measure=>omega);case rel=>exact⟨k+1,by go_num,by omega,Nat.le_refl _,HF,rfl⟩
    · have HF:Hid (orI l=x):=by show _=_;rw[HOA.out,if_pos h0]
      have h1b:(x==0)=false:=beq_eq_false_iff_ne.2 h0;(have h1n:(x != 0)=true:=by simp[bne,h1b]);go_wp2;go_ret;exact⟨by rw[HF.out];rfl,rfl⟩
  · have hltz:¬(k:Int)<(n:Int):=by omega
    (have HF:Hid (orI l=0):=by show _=_;rw[HO.out,List.drop_of_length_le (by have:=HN.out;omega)];rfl);go_wp2;go_ret;exact⟨by rw[HF.out];rfl,rfl⟩
structure SA(ab bb:Nat)(x y:RArc)(w:World):Prop where
 a:w.heap[ab]?=some (.cells #[.int .i32 x.label,.int .i64 x.out,.int .i64 x.to] 126)
 b:w.heap[bb]?=some (.cells #[.int .i32 y.label,.int .i64 y.out,.int .i64 y.to] 126)
theorem SA.facts{ab bb:Nat}{x y:RArc}{w:World}(h:SA ab bb x y w):w.cell? ⟨ab,0,none⟩=some (.int .i32 x.label)∧w.cell? ⟨ab,1,none⟩=some (.int .i64 x.out)∧w.cell? ⟨ab,2,none⟩=some (.int .i64 x.to)∧w.cell? ⟨bb,0,none⟩=some (.int .i32 y.label)∧w.cell? ⟨bb,1,none⟩=some (.int .i64 y.out)∧w.cell? ⟨bb,2,none⟩=some (.int .i64 y.to):=
 ⟨by simp[World.cell?,h.a],by simp[World.cell?,h.a],by simp[World.cell?,h.a],by simp[World.cell?,h.b],by simp[World.cell?,h.b],by simp[World.cell?,h.b]⟩
theorem SA.below{ab bb:Nat}{x y:RArc}{w w':World}(h:SA ab bb x y w)(hb:Below w.heap.size w w'):SA ab bb x y w':=⟨(hb.block ab (Array.getElem?_eq_some_iff.1 h.a).1).trans h.a,(hb.block bb (Array.getElem?_eq_some_iff.1 h.b).1).trans h.b⟩
set_option maxHeartbeats 1000000 in
theorem zIh(x y:RArc)(w:World):Calls Tryz.prog 175 #[.agg #[.int .i32 x.label,.int .i64 x.out,.int .i64 x.to],.agg #[.int .i32 y.label,.int .i64 y.out,.int .i64 y.to]] w fun e w'=>e = .returned (.int .i64 (cmpA x y))∧Gr w w':=by
 obtain⟨ab,hab⟩:∃ab,ab=w.heap.size:=⟨_,rfl⟩;obtain⟨bb,hbb⟩:∃bb,bb=w.heap.size+1:=⟨_,rfl⟩;obtain⟨W,hW⟩:∃W,W=(w.alloc (.cells #[.int .i32 x.label,.int .i64 x.out,.int .i64 x.to] 126)).alloc (.cells #[.int .i32 y.label,.int .i64 y.out,.int .i64 y.to] 126):=⟨_,rfl⟩;have HG:Hid (Gr w W):=by show Gr w W;rw[hW];exact((Gr.refl w).alloc _).alloc _
 have hS:SA ab bb x y W:=by
  constructor
  · rw[hW,(MapKept.heap_alloc _ _).2 ab (by rw[hab];simp),hab]
    exact zAb _ _
  · have e:(w.alloc (.cells #[.int .i32 x.label,.int .i64 x.out,.int .i64 x.to] 126)).heap.size=bb:=by rw[hbb];simp
    rw[hW,←e];exact zAb _ _
 have hS0:SA ab bb x y W.drew:=hS.below (Below.refl _ W).drew;have HA:Hid (cmpA x y=orI [cmpI x.label y.label,cmpI x.out y.out,cmpI x.to y.to]):=rfl;have h1:=zRe x.label y.label W.drew;have h2:=zLr x.out y.out W.drew;have h3:=zLr x.to y.to W.drew;obtain⟨W4,hW4⟩:∃W4,W4=W.drew.alloc (.cells #[.int .i64 (cmpI x.label y.label),.int .i64 (cmpI x.out y.out),.int .i64 (cmpI x.to y.to)] 3):=⟨_,rfl⟩;have HG4:Hid (Gr w W4):=by show Gr w W4;rw[hW4];exact(HG.out.drew).alloc _
 have hn4:W4.heap[W.heap.size]?=some (.cells #[.int .i64 (cmpI x.label y.label),.int .i64 (cmpI x.out y.out),.int .i64 (cmpI x.to y.to)] 3):=by rw[hW4];exact zAb W.drew _
 have hS4:SA ab bb x y W4:=by rw[hW4];exact hS0.below ((Below.refl _ _).alloc (Nat.le_refl _) _)
 have h4:=or_any W.heap.size 3 3 [cmpI x.label y.label,cmpI x.out y.out,cmpI x.to y.to] W4 rfl (by decide) (fun i z hi=>by
  match i,hi with
  |0,hi=>simp at hi;subst hi;simp[World.cell?,hn4]
  |1,hi=>simp at hi;subst hi;simp[World.cell?,hn4]
  |2,hi=>simp at hi;subst hi;simp[World.cell?,hn4]
  |k+3,hi=>simp at hi)
 rw[←HA.out]at h4;generalize cmpA x y=CA at *;generalize cmpI x.label y.label=c1 at *;generalize cmpI x.out y.out=c2 at *;generalize cmpI x.to y.to=c3 at *;go_enter Tryz.func175,Tryz.ntmps175;go_upto_region 1 with fail
 rw[←hbb,←hab,←hW];clear hbb hab hW hS hn4;refine zAe (S:=SA ab bb x y) 18 rfl zAr hS0 (fun _=>?_);refine tq4 SA.facts 0 5 1 6 2 7 3 8 ?_;simp only[sZa,sZb,sZc];refine tq4 SA.facts 5 10 6 11 7 12 8 13 ?_;simp only[sZa,sZb,sZc];refine tq4 SA.facts 10 15 11 16 12 17 13 18 ?_;simp only[sZa,sZb,sZc];refine zAh (i:=4) (w0:=W.drew) 9 111 #[.int .i32 x.label,.int .i32 y.label] (by kernel_rfl) rfl rfl (by rfl) (by kernel_rfl) ?_;refine h1.mono ?_;rintro e w1 ⟨rfl,rfl⟩;refine⟨_,rfl,hS0,fun _=>?_⟩;simp only[sZa,sZb,sZc];refine zAh (i:=9) (w0:=W.drew) 14 173 #[.int .i64 x.out,.int .i64 y.out] (by kernel_rfl) rfl rfl (by rfl) (by kernel_rfl) ?_;refine h2.mono ?_;rintro e w1 ⟨rfl,rfl⟩;refine⟨_,rfl,hS0,fun _=>?_⟩;simp only[sZa,sZb,sZc];refine zAh (i:=14) (w0:=W.drew) 19 173 #[.int .i64 x.to,.int .i64 y.to] (by kernel_rfl) rfl rfl (by rfl) (by kernel_rfl) ?_;refine h3.mono ?_;rintro e w1 ⟨rfl,rfl⟩;refine⟨_,rfl,hS0,fun _=>?_⟩;simp only[sZa,sZb,sZc];refine zAp (i:=15) (v := .slice (some ⟨W.heap.size,0,none⟩) 3 3) (w':=W4) 20 (by kernel_rfl) rfl rfl (by rfl) (by rw[hW4];go_simp;first|done|exact rfl) hS4 (fun _=>?_);simp only[sZa,sZb,sZc];refine zAh (i:=16) (w0:=W4) 21 170 #[.slice (some ⟨W.heap.size,0,none⟩) 3 3] (by kernel_rfl) rfl rfl (by rfl) (by kernel_rfl) ?_;refine h4.mono ?_;rintro e w1 ⟨rfl,hw1⟩;rw[hw1];refine⟨_,rfl,hS4,fun _=>?_⟩;simp only[sZa,sZb,sZc];refine zAp (i:=17) (v := .int .i64 CA) (w':=W4) 4 (by kernel_rfl) rfl rfl (by rfl) (by go_simp;first|done|exact rfl) hS4 (fun _=>?_);simp only[sZa,sZb,sZc];refine wpAnyH_done (by kernel_rfl) ?_ _;go_wp2;go_ret;exact⟨rfl,HG4.out⟩
theorem zQ3(s:RSt)(ad:Option Addr)(cap:Nat)(w:World)(hl:s.arcs.length≤1114112):Calls Tryz.prog 172 #[.agg #[.bool s.final,.int .i64 s.out,.slice ad s.arcs.length cap]] w fun e w'=>e = .returned (.int .u64 (zBv s))∧Gr w w':=by
 obtain⟨n,hn⟩:∃n,s.arcs.length=n:=⟨_,rfl⟩;have HH:Hid (zBv s=2*(n:Int)+(if s.final then 1 else 0)):=by show _=_;rw[←hn];rfl
 rw[hn]at hl ⊢;clear hn;have HG:Hid (∀o,Gr w (w.alloc o)):=fun o=>(Gr.refl w).alloc o
 have w1:IntKind.u64.wrap (n:Int)=(n:Int):=by simp[IntKind.wrap,IntKind.bits,IntKind.signed];omega
 have w2:IntKind.u64.wrap (2*(n:Int))=2*(n:Int):=by simp[IntKind.wrap,IntKind.bits,IntKind.signed];omega
 have w3:IntKind.u64.wrap (2*(n:Int)+1)=2*(n:Int)+1:=by simp[IntKind.wrap,IntKind.bits,IntKind.signed];omega
 generalize s.out=so at *;cases hf:s.final with
 |true=>
  rw[hf,if_pos rfl]at HH;go_enter Tryz.func172,Tryz.ntmps172;go_wp2;go_ret;refine⟨?_,HG.out _⟩;rw[HH.out];simp
 |false=>
  rw[hf,if_neg (by decide)]at HH;go_enter Tryz.func172,Tryz.ntmps172;go_wp2;go_ret;refine⟨?_,HG.out _⟩;rw[HH.out];simp
namespace Pk
theorem cmpL_at{xs ys:List RArc}{k:Nat}{x y:RArc}(hx:xs[k]?=some x)(hy:ys[k]?=some y):cmpL (xs.drop k) (ys.drop k)=if cmpA x y≠0 then cmpA x y else cmpL (xs.drop (k+1)) (ys.drop (k+1)):=by
 obtain⟨h1,rfl⟩:=List.getElem?_eq_some_iff.1 hx;obtain⟨h2,rfl⟩:=List.getElem?_eq_some_iff.1 hy;rw[List.drop_eq_getElem_cons h1,List.drop_eq_getElem_cons h2,cmpL]
theorem zW0{xs ys:List RArc}{k:Nat}(hx:k<xs.length)(hy:ys.length≤k):cmpL (xs.drop k) (ys.drop k)=1:=by
 rw[List.drop_eq_getElem_cons hx,List.drop_of_length_le hy,cmpL]
theorem cmpL_end{xs ys:List RArc}{k:Nat}(hx:xs.length≤k):cmpL (xs.drop k) (ys.drop k)=if k<ys.length then -1 else 0:=by
 rw[List.drop_of_length_le hx];by_cases h:k<ys.length
 · rw[List.drop_eq_getElem_cons h,cmpL,if_pos h]
 · rw[List.drop_of_length_le (by omega),cmpL,if_neg h]
end Pk
set_option maxHeartbeats 2000000 in
theorem zIg(E:Nat)(xs ys:List RArc)(va vb:Value)(w:World)(ha:ArcsAt E w va xs)(hb:ArcsAt E w vb ys)(hE:E≤w.heap.size):
 Calls Tryz.prog 174 #[va,vb,.func (.func 175) #[] #[]] w fun e w'=>e = .returned (.int .i64 (cmpL xs ys))∧Gr w w':=by
 obtain⟨ad,cap,rfl⟩:=ha.shape;obtain⟨bd,bcap,rfl⟩:=hb.shape;obtain⟨nx,hnx⟩:∃n,xs.length=n:=⟨_,rfl⟩;obtain⟨ny,hny⟩:∃n,ys.length=n:=⟨_,rfl⟩;have hlx:=ha.len;have hly:=hb.len;have HA:Hid (ArcsAt E w (.slice ad xs.length cap) xs):=ha;have HB:Hid (ArcsAt E w (.slice bd ys.length bcap) ys):=hb;have HNX:Hid (xs.length=nx):=hnx;have HNY:Hid (ys.length=ny):=hny;rw[hnx]at HA hlx ⊢;rw[hny]at HB hly ⊢;clear ha hb hnx hny;go_enter Tryz.func174,Tryz.ntmps174;go_wp2
 go_loopg [7,8,9,10,13] nx (fun gm _ _ _ _ s13 wr=>∃(k:Nat),s13 = .int .i64 k∧k≤nx∧nx-k≤gm∧Hid (cmpL xs ys=cmpL (xs.drop k) (ys.drop k))∧Hid (Gr w wr))
 case atStart=>exact⟨0,rfl,Nat.zero_le _,by omega,rfl,Gr.refl _⟩
 case round=>
  obtain⟨k,rfl,hk,hgm,HO,HG⟩:=hrel;by_cases hlt:k<nx
  · have hltz:(k:Int)<(nx:Int):=by omega
    obtain⟨x,hx⟩:∃x,xs[k]?=some x:=⟨xs[k]'(by have:=HNX.out;omega),List.getElem?_eq_getElem _⟩;obtain⟨g,off,rfl,hg,c0,c1,c2⟩:=(HA.out.below (HG.out.bel.mono hE)).at hx;by_cases hly2:k<ny
    · have hlyz:(k:Int)<(ny:Int):=by omega
      obtain⟨y,hy⟩:∃y,ys[k]?=some y:=⟨ys[k]'(by have:=HNY.out;omega),List.getElem?_eq_getElem _⟩;obtain⟨h,oh,rfl,hh,d0,d1,d2⟩:=(HB.out.below (HG.out.bel.mono hE)).at hy;(have hdA:∀(o:Obj) (j:Nat),(wr.alloc o).cell? ⟨h,j,none⟩=wr.cell? ⟨h,j,none⟩:=fun o j=>((Below.refl _ wr).alloc (Nat.le_refl _) o).cell (p:=⟨h,j,none⟩) (Nat.lt_of_lt_of_le hh (Nat.le_trans hE HG.out.bel.size)));(have d0':=fun o=>(hdA o _).trans d0);(have d1':=fun o=>(hdA o _).trans d1);(have d2':=fun o=>(hdA o _).trans d2);have HOA:Hid (cmpL xs ys=if cmpA x y≠0 then cmpA x y else cmpL (xs.drop (k+1)) (ys.drop (k+1))):=HO.out.trans (cmpL_at hx hy);obtain⟨ab,hab⟩:∃ab,ab=wr.heap.size:=⟨_,rfl⟩;obtain⟨bb,hbb⟩:∃bb,bb=wr.heap.size+1:=⟨_,rfl⟩;obtain⟨W,hW⟩:∃W,W=(wr.alloc (.cells #[.int .i32 x.label,.int .i64 x.out,.int .i64 x.to] 126)).alloc (.cells #[.int .i32 y.label,.int .i64 y.out,.int .i64 y.to] 126):=⟨_,rfl⟩;(have HGW:Hid (Gr w W):=by show Gr w W;rw[hW];exact(HG.out.alloc _).alloc _);have hS:SA ab bb x y W:=by
       constructor
       · rw[hW,(MapKept.heap_alloc _ _).2 ab (by rw[hab];simp),hab]
         exact zAb _ _
       · have e:(wr.alloc (.cells #[.int .i32 x.label,.int .i64 x.out,.int .i64 x.to] 126)).heap.size=bb:=by rw[hbb];simp
         rw[hW,←e];exact zAb _ _
      obtain⟨p0,p1,p2,p3,p4,p5⟩:=hS.facts;have HCA:Hid (Calls Tryz.prog 175 #[.agg #[.int .i32 x.label,.int .i64 x.out,.int .i64 x.to],.agg #[.int .i32 y.label,.int .i64 y.out,.int .i64 y.to]] W fun e w'=>e = .returned (.int .i64 (cmpA x y))∧Gr W w'):=zIh x y W;clear hx hy hdA d0 d1 d2 hS;generalize cmpA x y=c at *;(go_upto_region 7 with fail);rw[←hbb,←hab,←hW];clear hbb hab hW c0 c1 c2 d0' d1' d2';by_cases hc0:c=0
      · subst hc0
        have HF:Hid (cmpL xs ys=cmpL (xs.drop (k+1)) (ys.drop (k+1))):=HOA.out;go_wp2_with (go_at_call 175;refine HCA.out.mono ?_;rintro e w2 ⟨rfl,hg2⟩;have HG2:Hid (Gr W w2):=hg2;clear hg2);go_roundg (nx-(k+1));(case measure=>omega);case rel=>exact⟨k+1,by go_num,by omega,Nat.le_refl _,HF,HGW.out.trans HG2.out⟩
      · have HF:Hid (cmpL xs ys=c):=by show _=_;rw[HOA.out,if_pos hc0]
        have h1b:(c==0)=false:=beq_eq_false_iff_ne.2 hc0;(have h1n:(c != 0)=true:=by simp[bne,h1b]);go_wp2_with (go_at_call 175;refine HCA.out.mono ?_;rintro e w2 ⟨rfl,hg2⟩;have HG2:Hid (Gr W w2):=hg2;clear hg2);go_ret;exact⟨by rw[HF.out];rfl,HGW.out.trans HG2.out⟩
    · have hlyz:¬(k:Int)<(ny:Int):=by omega
      (have HF:Hid (cmpL xs ys=1):=by show _=_;rw[HO.out,zW0 (by have:=HNX.out;omega) (by have:=HNY.out;omega)]);(have HGA:Hid (∀o,Gr w (wr.alloc o)):=fun o=>HG.out.alloc o);clear hx;go_wp2;go_ret;exact⟨by rw[HF.out];rfl,HGA.out _⟩
  · have hltz:¬(k:Int)<(nx:Int):=by omega
    (have hkx:k=nx:=by omega);have HE:Hid (cmpL xs ys=if nx<ny then -1 else 0):=by
     show _=_;rw[HO.out,cmpL_end (by have:=HNX.out;omega),HNY.out,hkx]
    by_cases hyx:nx<ny
    · have hyz:(nx:Int)<(ny:Int):=by omega
      rw[if_pos hyx]at HE;go_wp2;go_ret;exact⟨by rw[HE.out];rfl,HG.out⟩
    · have hyz:¬(nx:Int)<(ny:Int):=by omega
      rw[if_neg hyx]at HE;go_wp2;go_ret;exact⟨by rw[HE.out];rfl,HG.out⟩
end
namespace Pk
open Go.Sort
def zS:RSt:=⟨false,0,[]⟩
def cfS(m:List RSt)(i j:Nat):Int:=cmpS (m.getD i zS) (m.getD j zS)
theorem zFw(s:RSt):cmpS s s=0:=(cmpS_ord.eq _ _).2 rfl
theorem cmpS_pos{s t:RSt}(h:0<cmpS s t):cmpS t s<0:=(cmpS_ord.anti _ _).2 h
theorem zO9{s t:RSt}(h:¬cmpS s t<0):s=t∨cmpS t s<0:=by
 by_cases h0:cmpS s t=0
 · exact .inl ((cmpS_ord.eq _ _).1 h0)
 · exact .inr (cmpS_pos (by omega))
theorem cfS_swo(m:List RSt):SWO (Go.Proofs.ltOf (cfS m)):=by
 refine⟨fun x=>?_,fun x y z=>?_,fun x y z=>?_⟩<;>unfold Go.Proofs.ltOf cfS
 · rw[zFw];rfl
 · simp only[decide_eq_true_eq]
   exact cmpS_ord.tr _ _ _
 · simp only[decide_eq_false_iff_not]
   intro h1 h2 h3;rcases zO9 h1 with e1|g1
   · rw[e1]at h3;exact h2 h3
   · rcases zO9 h2 with e2|g2
     · rw[←e2]at h3;exact h1 h3
     · have:=cmpS_ord.tr _ _ _ g2 g1
       have h4:=(cmpS_ord.anti _ _).1 h3;omega
theorem zQg{d:Array Nat}{n:Nat}(hp:d.toList.Perm (List.range n)){a:Nat}(ha:a<n):∃i,i<d.size∧d[i]! = a:=by
 have:=hp.mem_iff.2 (List.mem_range.2 ha);obtain⟨i,hi,e⟩:=List.getElem_of_mem this;have hi':i<d.size:=by simpa using hi
 exact⟨i,hi',by rw[getElem!_pos d i hi'];simpa using e⟩
theorem zUn{d:Array Nat}{n:Nat}(hp:d.toList.Perm (List.range n)){i:Nat}(hi:i<d.size):d[i]!<n:=by
 rw[getElem!_pos d i hi];exact List.mem_range.1 (hp.mem_iff.1 (by simp))
theorem zXo{m:List RSt}{d:Array Nat}(hs:SortedIn (Go.Proofs.ltOf (cfS m)) 0 m.length d)(hadj:∀i,i+1<m.length→cfS m d[i]! d[i+1]!≠0):∀(k i:Nat),i+k+1<m.length→cfS m d[i]! d[i+k+1]!<0
 |0,i,h=>by
  have h1:=hs i (i+1) (Nat.zero_le _) (by omega) (by omega);have h2:=hadj i (by omega);unfold Go.Proofs.ltOf at h1;have h1':=of_decide_eq_false h1;show cfS m d[i]! d[i+1]!<0;unfold cfS at h1' h2 ⊢;rcases zO9 h1' with e|g
  · rw[e,zFw]at h2;exact absurd rfl h2
  · exact g
 |k+1,i,h=>by
  have h1:=zXo hs hadj k i (by omega);have h2:=zXo hs hadj 0 (i+k+1) (by omega);exact cmpS_ord.tr _ _ _ h1 h2
theorem zUw{m:List RSt}{d:Array Nat}(hd:d.size=m.length)(hp:d.toList.Perm (List.range m.length))(hs:SortedIn (Go.Proofs.ltOf (cfS m)) 0 m.length d)(hadj:∀i,i+1<m.length→cfS m d[i]! d[i+1]!≠0):m.Nodup:=by
 unfold List.Nodup;rw[List.pairwise_iff_getElem];intro a b ha hb hab e;obtain⟨i,hi,hia⟩:=zQg hp ha;obtain⟨j,hj,hjb⟩:=zQg hp hb;have hf:∀x,(hx:x<m.length)→m.getD x zS=m[x]:=fun x hx=>by rw[List.getD_eq_getElem?_getD,List.getElem?_eq_getElem hx];rfl
 have key:∀i j,i<j→j<m.length→d[i]!≠d[j]!→cfS m d[i]! d[j]!<0:=fun i j h1 h2 _=>by
  have:=zXo hs hadj (j-i-1) i (by omega)
  rwa [show i+(j-i-1)+1=j by omega]at this
 have hc:cfS m a b=0:=by unfold cfS;rw[hf a ha,hf b hb,e,zFw]
 have hc':cfS m b a=0:=by unfold cfS;rw[hf a ha,hf b hb,e,zFw]
 rcases Nat.lt_trichotomy i j with h|h|h
 · have:=key i j h (by omega) (by rw[hia,hjb];omega)
   rw[hia,hjb]at this;omega
 · subst h
   rw[hia]at hjb;omega
 · have:=key j i h (by omega) (by rw[hia,hjb];omega)
   rw[hia,hjb]at this;omega
theorem dup_adj{m:List RSt}{d:Array Nat}(hd:d.size=m.length)(hp:d.toList.Perm (List.range m.length)){i:Nat}(hi:i+1<m.length)(h:cfS m d[i]! d[i+1]! = 0):¬m.Nodup:=fun hn=>by
 have h1:=zUn hp (i:=i) (by omega);have h2:=zUn hp (i:=i+1) (by omega);have hne:d[i]!≠d[i+1]!:=by
  have hnd:d.toList.Nodup:=hp.nodup_iff.2 List.nodup_range;unfold List.Nodup at hnd;rw[List.pairwise_iff_getElem]at hnd;have:=hnd i (i+1) (by simpa using(show i<d.size by omega)) (by simpa using(show i+1<d.size by omega)) (by omega);rw[getElem!_pos d i (by omega),getElem!_pos d (i+1) (by omega)];simpa using this
 have he:=(cmpS_ord.eq _ _).1 h;have hf:∀x,(hx:x<m.length)→m.getD x zS=m[x]:=fun x hx=>by rw[List.getD_eq_getElem?_getD,List.getElem?_eq_getElem hx];rfl
 rw[hf _ h1,hf _ h2]at he;unfold List.Nodup at hn;rw[List.pairwise_iff_getElem]at hn;rcases Nat.lt_trichotomy d[i]! d[i+1]! with h|h|h
 · exact hn _ _ h1 h2 h he
 · exact hne h
 · exact hn _ _ h2 h1 h he.symm
end Pk
namespace Fz
open Go.Proofs.YtobjpljdgieklaaGreatDoor.Nums Go.Proofs.YtobjpljdgieklaaGreatDoor.Fm Go.Proofs.YtobjpljdgieklaaGreatDoor Go.Proofs.YtobjpljdgieklaaGreatDoor.Pk Go.Proofs.YtobjpljdgieklaaGreatDoor.Ed Go.Proofs.YtobjpljdgieklaaGreatDoor.Lv
abbrev Mt:=ByteArray×Int×Int
def hit(xs:List Int)(d:Nat)(e:En):Option Mt:=if lv e.1 xs≤d then some (zAv e.1,e.2,(lv e.1 xs:Int))else none
def hits(xs:List Int)(d:Nat)(R:List En):List Mt:=R.filterMap (hit xs d)
theorem zCp(xs:List Int)(d:Nat)(R S:List En):hits xs d (R++S)=hits xs d R++hits xs d S:=List.filterMap_append
theorem hits_len(xs:List Int)(d:Nat)(R:List En):(hits xs d R).length≤R.length:=List.length_filterMap_le _ _
theorem zWt{xs:List Int}{d:Nat}{t:List Int}(hn:xs.length≤24)(h:zCx xs.length d (rowL xs d t)=false):d<lv t xs:=by
 have h1:=(zIo hn).1 h xs.length (Nat.le_refl _);rw[zFf d t hn (Nat.le_refl _),rowF,List.take_length]at h1;omega
theorem zRc{xs:List Int}{d:Nat}(hn:xs.length≤24):∀(r t:List Int),zCx xs.length d (rowL xs d t)=false→d<lv (t++r) xs
 |[],t,h=>by rw[List.append_nil];exact zWt hn h
 |c::r,t,h=>by
  have h2:=(zWs c hn h).1;rw[zP1 d t c hn]at h2;have:=zRc hn r (t++[c]) h2;rw[List.append_assoc]at this;exact this
theorem zV5{xs:List Int}{d:Nat}(hn:xs.length≤24){t:List Int}(h:zCx xs.length d (rowL xs d t)=false)(sum:Int)(R:List En):hits xs d (ud t sum R)=[]:=by
 unfold hits ud;rw[List.filterMap_map];refine List.filterMap_eq_nil_iff.2 fun e _=>?_
 simp only[Function.comp,hit];rw[if_neg (by have:=zRc hn e.1 t h;omega)]
structure It where
 to:Nat
 lab:Int
 out:Int
 head:List Int
 wt:Int
def itE(D:List (List En))(i:It):List En:=ud (i.head++[i.lab]) (i.wt+i.out) (D[i.to]?.getD [])
def stE(D:List (List En))(l:List It):List En:=l.reverse.flatMap (itE D)
def itOf(head:List Int)(wt:Int)(a:Arc):It:=⟨a.to,a.label,a.out,head,wt⟩
def live(xs:List Int)(d:Nat)(head:List Int)(a:Arc):Bool:=zCx xs.length d (rowL xs d (head++[a.label]))
def push(xs:List Int)(d:Nat)(head:List Int)(wt:Int)(l:List Arc):List It:=(l.reverse.filter (live xs d head)).map (itOf head wt)
theorem zP4(D:List (List En))(l:List It)(i:It):stE D (l++[i])=itE D i++stE D l:=by
 unfold stE;rw[List.reverse_append,List.flatMap_append];simp
theorem zJj(D:List (List En))(l m:List It):stE D (l++m)=stE D m++stE D l:=by
 unfold stE;rw[List.reverse_append,List.flatMap_append]
theorem zP5(D:List (List En))(xs:List Int)(d:Nat)(head:List Int)(wt:Int)(l:List Arc):stE D (push xs d head wt l)=(l.filter (live xs d head)).flatMap fun a=>ud (head++[a.label]) (wt+a.out) (D[a.to]?.getD []):=by
 unfold stE push;rw[←List.map_reverse,←List.filter_reverse,List.reverse_reverse,List.flatMap_map];rfl
theorem zMx{xs:List Int}{d:Nat}(hn:xs.length≤24)(D:List (List En))(head:List Int)(wt:Int):∀l:List Arc,hits xs d ((l.filter (live xs d head)).flatMap fun a=>ud (head++[a.label]) (wt+a.out) (D[a.to]?.getD []))=hits xs d (udA D head wt l)
 |[]=>rfl
 |a::l=>by
  have ih:=zMx (d:=d) hn D head wt l;have e:udA D head wt (a::l)=ud (head++[a.label]) (wt+a.out) (D[a.to]?.getD [])++udA D head wt l:=by simp[udA]
  rw[e,zCp,←ih];cases h:live xs d head a with
  |true=>rw[List.filter_cons,if_pos h,List.flatMap_cons,zCp]
  |false=>
   rw[List.filter_cons,if_neg (by rw[h];simp),zV5 hn h,List.nil_append]
theorem zUh{xs:List Int}{d:Nat}(hn:xs.length≤24)(D:List (List En))(its:List It)(head:List Int)(wt:Int)(l:List Arc):hits xs d (stE D (its++push xs d head wt l))=hits xs d (udA D head wt l)++hits xs d (stE D its):=by
 rw[zJj,zCp,zP5,zMx hn]
theorem zQe(D:List (List En))(xs:List Int)(d:Nat)(head:List Int)(wt:Int):∀l:List Arc,(stE D (push xs d head wt l)).length≤(udA D head wt l).length
 |[]=>by simp[push,stE]
 |a::l=>by
  have ih:=zQe D xs d head wt l;have e:udA D head wt (a::l)=ud (head++[a.label]) (wt+a.out) (D[a.to]?.getD [])++udA D head wt l:=by simp[udA]
  rw[zP5]at ih ⊢;rw[e,List.length_append];cases h:live xs d head a with
  |true=>rw[List.filter_cons,if_pos h,List.flatMap_cons,List.length_append];omega
  |false=>rw[List.filter_cons,if_neg (by rw[h];simp)];omega
def wgt(R:List En):Nat:=(R.map fun e=>e.1.length+1).sum
def itM(D:List (List En))(i:It):Nat:=wgt (D[i.to]?.getD [])
def stM(D:List (List En))(l:List It):Nat:=(l.map (itM D)).sum
theorem zJe(R S:List En):wgt (R++S)=wgt R+wgt S:=by simp[wgt]
theorem zTk(c o:Int):∀R:List En,wgt ((zAn o R).map (pre c))=wgt R+R.length
 |[]=>rfl
 |e::R=>by
  have ih:=zTk c o R;have e1:(zAn o (e::R)).map (pre c)=pre c (e.1,e.2+o)::(zAn o R).map (pre c):=rfl;have e2:∀(x:En) (L:List En),wgt (x::L)=x.1.length+1+wgt L:=fun x L=>by simp[wgt]
  rw[e1,e2,e2,ih];simp only[pre,List.length_cons];omega
theorem zPu(D:List (List En)):∀l:List Arc,wgt (flat (outs D l))=(l.map fun a=>wgt (D[a.to]?.getD [])).sum+(l.map fun a=>(D[a.to]?.getD []).length).sum
 |[]=>rfl
 |a::l=>by
  have e:flat (outs D (a::l))=(zAn a.out (D[a.to]?.getD [])).map (pre a.label)++flat (outs D l):=by simp[flat,outs]
  rw[e,zJe,zTk,zPu D l];simp only[List.map_cons,List.sum_cons];omega
theorem wgt_exp(D:List (List En))(s:St):wgt (exp D s)=(s.arcs.map fun a=>wgt (D[a.to]?.getD [])).sum+(exp D s).length:=by
 rw[zId,exp,zJe,zPu];have:wgt (fins s)=if s.final then 1 else 0:=by unfold fins;cases s.final<;>rfl
 rw[this];omega
theorem zJi(D:List (List En))(l m:List It):stM D (l++m)=stM D l+stM D m:=by simp[stM]
theorem zFb(f:Arc→Nat)(p:Arc→Bool):∀l:List Arc,((l.filter p).map f).sum≤(l.map f).sum
 |[]=>by simp
 |a::l=>by
  have:=zFb f p l;rw[List.filter_cons]
  split<;>simp only[List.map_cons,List.sum_cons]<;>omega
theorem zUg{D:List (List En)}{b:List St}(hI:Fm.Inv D b){i:Nat}{s:St}(hi:b[i]?=some s)(xs:List Int)(d:Nat)(head:List Int)(wt:Int):stM D (push xs d head wt s.arcs)<wgt (D[i]?.getD []):=by
 obtain⟨h1,_,_⟩:=hI.row i s hi;have hne:=(hI.lv (exp D s) (List.mem_of_getElem? h1)).1;have hp:=List.length_pos_iff.2 hne;rw[h1,Option.getD_some,wgt_exp];have e:stM D (push xs d head wt s.arcs)=((s.arcs.reverse.filter (live xs d head)).map fun a=>wgt (D[a.to]?.getD [])).sum:=by
  unfold stM push;rw[List.map_map];rfl
 have h2:=zFb (fun a=>wgt (D[a.to]?.getD [])) (live xs d head) s.arcs.reverse;have h3:(s.arcs.reverse.map fun a=>wgt (D[a.to]?.getD [])).sum=(s.arcs.map fun a=>wgt (D[a.to]?.getD [])).sum:=by
  rw[List.map_reverse,List.sum_reverse]
 rw[h3]at h2;rw[e];omega
theorem zP3{D:List (List En)}(hlv:∀R∈D,R≠[]):∀{l:List It},(∀i∈l,i.to<D.length)→l.length≤(stE D l).length
 |[],_=>by simp
 |i::l,h=>by
  have ih:=zP3 hlv (l:=l) fun j hj=>h j (by simp[hj])
  have e:stE D (i::l)=stE D l++itE D i:=by simp[stE]
  have hi:=h i (by simp);have:1≤(itE D i).length:=by
   unfold itE;rw[zHn,List.getElem?_eq_getElem hi,Option.getD_some];exact List.length_pos_iff.2 (hlv _ (List.getElem_mem hi))
  rw[e,List.length_append,List.length_cons];omega
theorem zRv{t:List Int}{r:Int}(h1:allR t=true)(h2:allR [r]=true):zAv (t++[r])=zAv t++zAv [r]:=by
 have h3:allR (t++[r])=true:=by
  unfold allR at h1 h2 ⊢;rw[List.all_append,h1,h2];rfl
 unfold zAv;rw[if_pos h1,if_pos h2,if_pos h3,List.flatMap_append];unfold strOfNums;rw[List.map_append];apply ByteArray.ext;simp
theorem zMb(t:List Int):(zAv t).size≤4*t.length:=by
 unfold zAv
 split
 · have:=zLk t
   unfold strOfNums;show((t.flatMap wrI).map _).toArray.size≤_;rw[List.size_toArray,List.length_map];exact this
 · exact Nat.zero_le _
theorem zJ0{α β:Type}{f g:α→Option β}:∀{l:List α},(∀x∈l,f x=g x)→l.filterMap f=l.filterMap g
 |[],_=>rfl
 |x::l,h=>by rw[List.filterMap_cons,List.filterMap_cons,h x (by simp),zJ0 (l:=l) fun y hy=>h y (by simp[hy])]
def zBe(xs:List Int)(d:Nat)(l:List Pr):List Mt:=l.filterMap fun p=>if lv (zB0 p).1 xs≤d then some (p.1,p.2,(lv (zB0 p).1 xs:Int))else none
theorem zV4{l:List Pr}(h:Wd l)(xs:List Int)(d:Nat):hits xs d (ents l)=zBe xs d l:=by
 unfold hits ents zBe;rw[List.filterMap_map];refine zJ0 fun p hp=>?_
 obtain⟨ys,hy,_⟩:=h p hp;simp only[Function.comp,hit];rw[zL9 ⟨ys,hy⟩];rfl
end Fz
section
open Go.RowKit Nums Fm Pk Fz
attribute [local go_sem] Oper.semAt_some
def arcW(a:RArc):Value := .agg #[.int .i32 a.label,.int .i64 a.out,.int .i64 a.to]
def zArc:RArc:=⟨0,0,0⟩
structure BkAt(bx:Nat)(ad:Option Addr)(cap:Nat)(l:List RArc)(W:World):Prop where
 box:W.cell? ⟨bx,0,none⟩=some (.slice ad l.length cap)
 row:∃E,ArcsAt E W (.slice ad l.length cap) l
theorem zNz(ad:Option Addr)(n cap:Nat)(w:World):Calls Tryz.prog 114 #[.slice ad n cap] w fun e w'=>e = .returned (.func (.func 152) #[] #[.pointer (some ⟨w.heap.size,0,none⟩)])∧w'=w.alloc (.cells #[.slice ad n cap] 89):=by
 go_enter Tryz.func114,Tryz.ntmps114;go_wp2;go_ret;exact⟨rfl,rfl⟩
set_option maxHeartbeats 1000000 in
theorem back_seq(bx:Nat)(ad:Option Addr)(cap:Nat)(l:List RArc)(hl:l.length≤9223372036854775807):
 SeqB 152 #[.pointer (some ⟨bx,0,none⟩)] (fun k=>#[.int .i64 ((l.length-1-k:Nat):Int),arcW (l.getD (l.length-1-k) zArc)]) l.length (BkAt bx ad cap l):=by
 intro yl J W hT hy h0;have hb0:=(hT 0 W h0).box;obtain⟨n,hn⟩:∃n,l.length=n:=⟨_,rfl⟩;have HT:Hid (∀k W,J k W→BkAt bx ad cap l W):=hT;have HY:Hid (∀k W,k<n→J k W→YieldAt Fence.wide 0 Tryz.prog yl #[.int .i64 ((n-1-k:Nat):Int),arcW (l.getD (n-1-k) zArc)] W fun e W'=>e = .returned (.bool true)∧J (k+1) W'):=by
  have:=hy;rw[hn]at this;exact this
 have HN:Hid (l.length=n):=hn;rw[hn]at hb0 hl ⊢;clear hT hy hn;have hdd:∀k:Nat,(Fence.wide.depth.isSome=true→1≤k):=fun k h=>by simp[Fence.wide]at h
 refine(callsIn_wide (n:=1)).1 ?_;refine callsIn_of_wp Tryz.func152 rfl trivial ?_ rfl;simp only[Tryz.ntmps152,List.size_toArray,List.length_cons,List.length_nil,Nat.reduceAdd,Nat.reduceSub,Array.replicate_succ,Array.replicate_zero,List.push_toArray,List.append_toArray,List.nil_append,List.cons_append];have hw1:IntKind.i64.wrap ((n:Int)-1)=(n:Int)-1:=by rw[IntKind.wrap_i64];omega
 gi_wp2
 gi_loopw [3] (fun v wr=>∃k:Nat,k≤n∧v = .int .i64 ((n:Int)-1-(k:Int))∧J k wr) (fun v _=>(intOf v+1).toNat)
 case atStart=>exact⟨0,Nat.zero_le _,by first|rfl|(congr 1;omega)|simp,h0⟩
 case round=>
  obtain⟨k,hk,rfl,hJ⟩:=hrel;by_cases hkn:k<n
  · obtain⟨m,hm⟩:∃m,m=n-1-k:=⟨_,rfl⟩
    (have hmi:(n:Int)-1-(k:Int)=(m:Int):=by omega);have hB:=HT.out k wr hJ;have hbx:=hB.box;obtain⟨E,hrow⟩:=hB.row;rw[HN.out]at hbx hrow;obtain⟨x,hx⟩:∃x,l[m]?=some x:=⟨_,List.getElem?_eq_getElem (by have:=HN.out;omega)⟩;obtain⟨g,off,rfl,_,c0,c1,c2⟩:=hrow.at hx;obtain⟨fn,tmps,assign,body,hyy,hRr⟩:=HY.out k wr hkn hJ;rw[←hm,List.getD_eq_getElem?_getD,hx,Option.getD_some]at hyy;simp only[arcW]at hyy;rw[hmi];(have hm0:(m:Int)<(n:Int):=by omega);(have hw2:IntKind.i64.wrap ((m:Int)-1)=(m:Int)-1:=by rw[IntKind.wrap_i64];omega);(have HM:Hid (m+k+1=n):=by show m+k+1=n;omega);clear hB hrow hmi hm hx
    gi_wp2
    refine hRr.mono ?_;rintro e W3 ⟨rfl,hJ3⟩
    gi_wp2
    go_roundw
    (case rel=>exact⟨k+1,by omega,by have:=HM.out;congr 1;omega,hJ3⟩);case measure=>first|(simp[intOf];done)|(simp[intOf];omega)
  · have hkn2:k=n:=by omega
    (have hneg:(n:Int)-1-(k:Int)<0:=by omega);rw[hkn2]at hJ;(have hz:(n:Int)-1-(k:Int) = -1:=by omega);rw[hz];clear hneg hz hkn hk
    gi_wp2
    go_end0
    exact⟨⟨_,rfl⟩,hJ⟩
set_option maxHeartbeats 1000000 in
theorem zM4(t:List Int)(r:Int)(w:World)(hT:Tabs w)(h1:allR t=true)(h2:allR [r]=true)(ht:t.length≤24):Calls Tryz.prog 118 #[.string (zAv t),.int .i32 r] w fun e w'=>e = .returned (.string (zAv (t++[r])))∧Below w.heap.size w w':=by
 have HE:Hid (zAv (t++[r])=zAv t++zAv [r]):=zRv h1 h2;have hsz1:=zMb t;have hsz2:=zMb [r];obtain⟨tx,htx⟩:∃tx,zAv t=tx:=⟨_,rfl⟩;rw[htx]at HE hsz1 ⊢;have HC:Hid (∀T,Calls Tryz.prog 153 #[.slice (some ⟨w.heap.size,0,none⟩) 1 1] (w.alloc (.cells #[.int .i32 r] T)) fun e w'=>e = .returned (.tuple #[.string (zAv [r]),.bool (allR [r])])∧Below (w.alloc (.cells #[.int .i32 r] T)).heap.size (w.alloc (.cells #[.int .i32 r] T)) w'):=fun T=>by
  have hb:Below w.heap.size w (w.alloc (.cells #[.int .i32 r] T)):=(Below.refl _ w).alloc (Nat.le_refl _) _;refine zLw _ [r] _ (hT.below hb) ⟨some ⟨w.heap.size,0,none⟩,1,rfl,fun _=>⟨w.heap.size,0,rfl,fun i hi=>?_⟩⟩ (by simp);have:i=0:=by simp at hi;omega
  subst this;simp
 obtain⟨tr,htr⟩:∃tr,zAv [r]=tr:=⟨_,rfl⟩;rw[htr]at HE HC hsz2;have hsz:¬9223372036854775807<tx.size+tr.size:=by simp at hsz2;omega
 clear htx htr h1 hsz1 hsz2 ht;go_enter Tryz.func118,Tryz.ntmps118;go_wp2_with (go_at_call 153;refine(HC.out _).mono ?_;rintro e w1 ⟨rfl,hb1⟩);go_ret;exact⟨by rw[HE.out];rfl,((Below.refl _ w).alloc (Nat.le_refl _) _).trans (hb1.mono (by simp))⟩
end
