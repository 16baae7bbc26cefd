import Derived.Test.YtkdhdehobdfakaaGreatDoorJ8
import Derived.Test.YtkdhdehobdfakaaGreatDoorJ9
import Derived.ArgAppend
import Derived.Handy
import Derived.Laws.OwnMore
import Derived.Deep.MidRow
import Derived.Stop.BytesEq
set_option maxRecDepth 100000
set_option maxHeartbeats 8000000
namespace Go.Proofs.YtkdhdehobdfakaaGreatDoor
namespace Ed
def lv:List Int→List Int→Nat
 |[],ys=>ys.length
 |_::xs,[]=>xs.length+1
 |x::xs,y::ys=>min (lv xs ys+if x=y then 0 else 1) (min (lv xs (y::ys)+1) (lv (x::xs) ys+1))
termination_by xs ys=>xs.length+ys.length
inductive Al:List Int→List Int→Nat→Prop
 |nil:Al [] [] 0
 |same {x:Int} {xs ys:List Int} {n:Nat}:Al xs ys n→Al (x::xs) (x::ys) n
 |sub {x y:Int} {xs ys:List Int} {n:Nat}:x≠y→Al xs ys n→Al (x::xs) (y::ys) (n+1)
 |del {x:Int} {xs ys:List Int} {n:Nat}:Al xs ys n→Al (x::xs) ys (n+1)
 |ins {y:Int} {xs ys:List Int} {n:Nat}:Al xs ys n→Al xs (y::ys) (n+1)
theorem zCr(ys:List Int):lv [] ys=ys.length:=by rw[lv]
theorem zCz(xs:List Int):lv xs []=xs.length:=by cases xs<;>rw[lv]<;>rfl
theorem zEc(x y:Int)(xs ys:List Int):lv (x::xs) (y::ys)=min (lv xs ys+if x=y then 0 else 1) (min (lv xs (y::ys)+1) (lv (x::xs) ys+1)):=by rw[lv]
theorem lv_del(x:Int)(xs ys:List Int):lv (x::xs) ys≤lv xs ys+1:=by
 cases ys with
 |nil=>rw[zCz,zCz];simp
 |cons y ys=>rw[zEc];omega
theorem lv_ins(y:Int)(xs ys:List Int):lv xs (y::ys)≤lv xs ys+1:=by
 cases xs with
 |nil=>rw[zCr,zCr];simp
 |cons x xs=>rw[zEc];omega
theorem lv_al{xs ys:List Int}{n:Nat}(h:Al xs ys n):lv xs ys≤n:=by
 induction h with
 |nil=>rw[zCr];simp
 |same _ ih=>rw[zEc,if_pos rfl];omega
 |sub hne _ ih=>rw[zEc,if_neg hne];omega
 |del _ ih=>exact Nat.le_trans (lv_del _ _ _) (by omega)
 |ins _ ih=>exact Nat.le_trans (lv_ins _ _ _) (by omega)
theorem zYn:∀ys:List Int,Al [] ys ys.length
 |[] => .nil
 |_::ys => .ins (zYn ys)
theorem zR8:∀xs:List Int,Al xs [] xs.length
 |[] => .nil
 |_::xs => .del (zR8 xs)
theorem al_lv:∀(n:Nat) (xs ys:List Int),xs.length+ys.length≤n→Al xs ys (lv xs ys):=by
 intro n
 induction n with
 |zero=>
  intro xs ys h;have e1:xs=[]:=List.length_eq_zero_iff.1 (by omega);have e2:ys=[]:=List.length_eq_zero_iff.1 (by omega);subst e1;subst e2;rw[zCr];exact .nil
 |succ n ih=>
  intro xs ys h
  match xs,ys with
  |[],ys=>rw[zCr];exact zYn ys
  |x::xs,[]=>rw[zCz];exact zR8 _
  |x::xs,y::ys=>
   simp only[List.length_cons]at h;have a1:=ih xs ys (by omega);have a2:=ih xs (y::ys) (by simp only[List.length_cons];omega);have a3:=ih (x::xs) ys (by simp only[List.length_cons];omega);have e:=zEc x y xs ys;by_cases hxy:x=y
   · subst hxy
     rw[if_pos rfl]at e;by_cases c1:lv (x::xs) (x::ys)=lv xs ys
     · rw[c1];exact .same a1
     · by_cases c2:lv (x::xs) (x::ys)=lv xs (x::ys)+1
       · rw[c2];exact .del a2
       · have c3:lv (x::xs) (x::ys)=lv (x::xs) ys+1:=by omega
         rw[c3];exact .ins a3
   · rw[if_neg hxy]at e
     by_cases c1:lv (x::xs) (y::ys)=lv xs ys+1
     · rw[c1];exact .sub hxy a1
     · by_cases c2:lv (x::xs) (y::ys)=lv xs (y::ys)+1
       · rw[c2];exact .del a2
       · have c3:lv (x::xs) (y::ys)=lv (x::xs) ys+1:=by omega
         rw[c3];exact .ins a3
theorem al_is(xs ys:List Int):Al xs ys (lv xs ys):=al_lv _ xs ys (Nat.le_refl _)
theorem Al.append{a b c d:List Int}{n m:Nat}(h:Al a b n)(k:Al c d m):Al (a++c) (b++d) (n+m):=by
 induction h with
 |nil=>simpa using k
 |same _ ih=>exact .same ih
 |sub hne _ ih=>rw[show ∀n:Nat,n+1+m=n+m+1 by omega];exact .sub hne ih
 |del _ ih=>rw[show ∀n:Nat,n+1+m=n+m+1 by omega];exact .del ih
 |ins _ ih=>rw[show ∀n:Nat,n+1+m=n+m+1 by omega];exact .ins ih
theorem Al.rev{a b:List Int}{n:Nat}(h:Al a b n):Al a.reverse b.reverse n:=by
 induction h with
 |nil=>exact .nil
 |same _ ih=>rw[List.reverse_cons,List.reverse_cons];exact ih.append (.same .nil)
 |sub hne _ ih=>rw[List.reverse_cons,List.reverse_cons];exact ih.append (.sub hne .nil)
 |del _ ih=>rw[List.reverse_cons];simpa using ih.append (.del (x:=_) .nil)
 |@ins y xs ys n _ ih=>rw[List.reverse_cons];simpa using ih.append (.ins (y:=y) .nil)
theorem zRb(a b:List Int):lv a.reverse b.reverse=lv a b:=by
 have h1:=lv_al (al_is a b).rev;have h2:=lv_al (al_is a.reverse b.reverse).rev;rw[List.reverse_reverse,List.reverse_reverse]at h2;omega
theorem zV9(p q:List Int)(x y:Int):lv (p++[x]) (q++[y])=min (lv p q+if x=y then 0 else 1) (min (lv p (q++[y])+1) (lv (p++[x]) q+1)):=by
 have e:=zEc x y p.reverse q.reverse;have r:∀(a:List Int) (z:Int),z::a.reverse=(a++[z]).reverse:=fun a z=>by simp
 rw[r,r,zRb,zRb,zRb,zRb]at e;exact e
theorem lv_bd:∀(n:Nat) (xs ys:List Int),xs.length+ys.length≤n→xs.length≤ys.length+lv xs ys∧ys.length≤xs.length+lv xs ys∧(lv xs ys≤xs.length∨lv xs ys≤ys.length):=by
 intro n
 induction n with
 |zero=>
  intro xs ys h;have e1:xs=[]:=List.length_eq_zero_iff.1 (by omega);subst e1;rw[zCr];simp
 |succ n ih=>
  intro xs ys h
  match xs,ys with
  |[],ys=>rw[zCr];simp
  |x::xs,[]=>rw[zCz];simp
  |x::xs,y::ys=>
   simp only[List.length_cons]at h ⊢;have a1:=ih xs ys (by omega);have a2:=ih xs (y::ys) (by simp only[List.length_cons];omega);have a3:=ih (x::xs) ys (by simp only[List.length_cons];omega);simp only[List.length_cons]at a2 a3;rw[zEc]
   split<;>omega
theorem lv_bds(xs ys:List Int):xs.length≤ys.length+lv xs ys∧ys.length≤xs.length+lv xs ys∧(lv xs ys≤xs.length∨lv xs ys≤ys.length):=lv_bd _ xs ys (Nat.le_refl _)
def dr(p ys:List Int):List Int:=(List.range (ys.length+1)).map fun j=>(lv p (ys.take j):Int)
theorem zIm(p ys:List Int):(dr p ys).length=ys.length+1:=by simp[dr]
theorem zNu(p ys:List Int){j:Nat}(h:j≤ys.length):(dr p ys)[j]?=some (lv p (ys.take j):Int):=by
 unfold dr;rw[List.getElem?_map,List.getElem?_range (by omega)];rfl
theorem dr_start(ys:List Int){j:Nat}(h:j≤ys.length):(dr [] ys)[j]?=some (j:Int):=by
 rw[zNu _ _ h,zCr,List.length_take,Nat.min_eq_left h]
theorem dr_next(p ys:List Int)(r:Int){j:Nat}{s:Int}(h:ys[j]?=some s):
 lv (p++[r]) (ys.take (j+1))=min (lv p (ys.take j)+if s=r then 0 else 1) (min (lv p (ys.take (j+1))+1) (lv (p++[r]) (ys.take j)+1)):=by
 have e:ys.take (j+1)=ys.take j++[s]:=by rw[List.take_add_one,h];rfl
 rw[e,zV9];have:(if r=s then 0 else 1)=(if s=r then 0 else 1:Nat):=by
  by_cases c:r=s
  · rw[if_pos c,if_pos c.symm]
  · rw[if_neg c,if_neg (fun e=>c e.symm)]
 rw[this]
theorem dr_bd(p ys:List Int)(j:Nat):lv p (ys.take j)≤p.length+ys.length:=by
 have:=lv_bds p (ys.take j);have h2:(ys.take j).length≤ys.length:=by rw[List.length_take];omega
 omega
def lay(cs:List Int)(b:Nat)(L:List Int):List Int:=cs.take b++L++cs.drop (b+L.length)
theorem zWl(cs:List Int)(b:Nat):lay cs b []=cs:=by simp[lay]
theorem zLj{cs L:List Int}{b:Nat}(h:b+L.length≤cs.length):(lay cs b L).length=cs.length:=by
 simp[lay];omega
theorem zWm{cs L:List Int}{b i:Nat}(h:b+L.length≤cs.length)(hi:i<L.length):(lay cs b L)[b+i]?=L[i]?:=by
 unfold lay;rw[List.append_assoc,List.getElem?_append_right (by rw[List.length_take];omega),List.length_take,Nat.min_eq_left (by omega),show b+i-b=i by omega,List.getElem?_append_left hi]
theorem zWk{cs L:List Int}{b k:Nat}(h:b+L.length≤cs.length)(hk:k<b∨b+L.length≤k):(lay cs b L)[k]?=cs[k]?:=by
 unfold lay;rcases hk with hk|hk
 · rw[List.append_assoc,List.getElem?_append_left (by rw[List.length_take];omega),List.getElem?_take,if_pos hk]
 · rw[List.getElem?_append_right (by simp;omega),List.getElem?_drop]
   congr 1;simp;omega
theorem zPb{cs L:List Int}{b:Nat}(h:b+L.length<cs.length)(x:Int):(lay cs b L).set (b+L.length) x=lay cs b (L++[x]):=by
 have hl:(cs.take b++L).length=b+L.length:=by simp;omega
 unfold lay;rw[List.set_append_right _ _ (by rw[hl];exact Nat.le_refl _),hl,Nat.sub_self,List.drop_eq_getElem_cons h,List.set_cons_zero];simp[Nat.add_assoc]
def rsE(l:List UInt8):Option (List Int):=match Nums.rs l with|some xs=>if xs.length≤1024 then some xs else none|none=>none
theorem zKv{l:List UInt8}{xs:List Int}(h:Nums.rs l=some xs)(hl:xs.length≤1024):rsE l=some xs:=by unfold rsE;rw[h];simp[hl]
theorem zQs{l:List UInt8}{xs:List Int}(h:Nums.rs l=some xs)(hl:¬xs.length≤1024):rsE l=none:=by unfold rsE;rw[h];simp[hl]
theorem zQr{l:List UInt8}(h:Nums.rs l=none):rsE l=none:=by unfold rsE;rw[h]
theorem rsE_far{l:List UInt8}(h:4096<l.length):rsE l=none:=by
 cases e:Nums.rs l with
 |none=>exact zQr e
 |some xs=>exact zQs e (by have:=(Nums.rs_len e).1;omega)
theorem zU1{l:List UInt8}{xs:List Int}(h:rsE l=some xs):Nums.rs l=some xs∧xs.length≤1024:=by
 unfold rsE at h;cases e:Nums.rs l with
 |none=>rw[e]at h;cases h
 |some ys=>
  rw[e]at h;simp only at h;by_cases c:ys.length≤1024
  · rw[if_pos c]at h;obtain rfl:=Option.some.inj h;exact⟨rfl,c⟩
  · rw[if_neg c]at h;cases h
def dsE(a b:List UInt8):Option Nat:=match rsE a,rsE b with|some x,some y=>some (lv x y)|_,_=>none
theorem zRx{a b:List UInt8}{x y:List Int}(h1:rsE a=some x)(h2:rsE b=some y):dsE a b=some (lv x y):=by unfold dsE;rw[h1,h2]
theorem dsE_left{a b:List UInt8}(h1:rsE a=none):dsE a b=none:=by unfold dsE;rw[h1]
theorem zXr{a b:List UInt8}(h1:rsE b=none):dsE a b=none:=by unfold dsE;rw[h1];cases rsE a<;>rfl
def dsV(o:Option Nat):Value:=match o with|some n => .tuple #[.int .i64 (n:Int),.bool true]|none => .tuple #[.int .i64 0,.bool false]
end Ed
section
namespace Lv
open Ed
def mk(f:Nat→Nat):List Nat:=(List.range 25).map f
theorem zCy(f:Nat→Nat):(mk f).length=25:=by simp[mk]
theorem zH7(f:Nat→Nat){j:Nat}(h:j<25):(mk f)[j]?=some (f j):=by simp[mk,h]
theorem zDq(f:Nat→Nat){j:Nat}(h:j<25):(mk f).getD j 0=f j:=by rw[List.getD_eq_getElem?_getD,zH7 f h];rfl
theorem mk_of{s:List Nat}(h:s.length=25):s=mk fun j=>s.getD j 0:=by
 apply List.ext_getElem?;intro i;by_cases hi:i<25
 · rw[zH7 _ hi,List.getD_eq_getElem?_getD,List.getElem?_eq_getElem (by omega)];rfl
 · rw[List.getElem?_eq_none (by omega),List.getElem?_eq_none (by rw[zCy];omega)]
theorem zBf{f g:Nat→Nat}(h:∀j,j<25→f j=g j):mk f=mk g:=List.map_congr_left fun j hj=>h j (List.mem_range.1 hj)
theorem mk_inj{f g:Nat→Nat}(h:mk f=mk g){j:Nat}(hj:j<25):f j=g j:=by
 have:=congrArg (fun l=>l[j]?) h;simp only[zH7 _ hj]at this;exact Option.some.inj this
theorem zM8(f:Nat→Nat){k:Nat}(x:Nat)(hk:k<25):(mk f).set k x=mk fun j=>if j=k then x else f j:=by
 apply List.ext_getElem?;intro i;by_cases hi:i<25
 · rw[List.getElem?_set,zH7 _ hi,zH7 _ hi]
   by_cases h:k=i
   · subst h;simp[zCy,hk]
   · rw[if_neg h,if_neg (fun e=>h e.symm)]
 · rw[List.getElem?_eq_none (by rw[List.length_set,zCy];omega),List.getElem?_eq_none (by rw[zCy];omega)]
theorem zVy{f:Nat→Nat}(h:∀j,j<25→f j<256):∀x∈mk f,x<256:=by
 intro x hx;obtain⟨j,hj,rfl⟩:=List.mem_map.1 hx;exact h j (List.mem_range.1 hj)
def dd(n d j:Nat):Nat:=if j≤n then d+1 else 0
theorem dd_le(n d j:Nat):dd n d j≤d+1:=by unfold dd;split<;>omega
def zFf(n d:Nat):List Nat:=mk (dd n d)
def cutF(n d:Nat)(s:List Nat)(j:Nat):Nat:=min (s.getD j 0) (dd n d j)
def cutL(n d:Nat)(s:List Nat):List Nat:=mk (cutF n d s)
def cutK(n d:Nat)(s:List Nat)(k:Nat):List Nat:=mk fun j=>if j<k then cutF n d s j else s.getD j 0
theorem zXx{n d:Nat}{s:List Nat}(h:s.length=25):cutK n d s 0=s:=by
 rw[cutK];simp only[Nat.not_lt_zero,if_false];exact(mk_of h).symm
theorem cutK_end(n d:Nat)(s:List Nat):cutK n d s 25=cutL n d s:=zBf fun _ hj=>if_pos hj
theorem cutK_get(n d:Nat)(s:List Nat){k:Nat}(h:k<25):(cutK n d s k).getD k 0=s.getD k 0:=by
 rw[cutK,zDq _ h];simp
theorem zXy(n d:Nat)(s:List Nat){k:Nat}(h:k<25):(cutK n d s k).set k (cutF n d s k)=cutK n d s (k+1):=by
 rw[cutK,zM8 _ _ h];refine zBf fun j _=>?_
 by_cases h1:j=k
 · subst h1;simp
 · rw[if_neg h1]
   by_cases h2:j<k
   · rw[if_pos h2,if_pos (by omega)]
   · rw[if_neg h2,if_neg (by omega)]
theorem zDu(n d:Nat)(s:List Nat):(cutL n d s).length=25:=zCy _
theorem cutK_len(n d:Nat)(s:List Nat)(k:Nat):(cutK n d s k).length=25:=zCy _
theorem zXz(n d:Nat)(s:List Nat)(j:Nat):cutF n d s j≤d+1:=Nat.le_trans (Nat.min_le_right _ _) (dd_le _ _ _)
def risK(k:Nat):List Nat:=mk fun j=>if j<k then j else 0
def zFo(n d:Nat):List Nat:=cutL n d (mk fun j=>j)
theorem zU4:risK 0=mk fun _=>0:=zBf fun j _=>by simp
theorem risK_end:risK 25=mk fun j=>j:=zBf fun _ hj=>if_pos hj
theorem zU5{k:Nat}(h:k<25):(risK k).set k k=risK (k+1):=by
 rw[risK,zM8 _ _ h];refine zBf fun j _=>?_
 by_cases h1:j=k
 · subst h1;simp
 · rw[if_neg h1]
   by_cases h2:j<k
   · rw[if_pos h2,if_pos (by omega)]
   · rw[if_neg h2,if_neg (by omega)]
def nx(xs:List Int)(r:Int)(c:List Nat):Nat→Nat
 |0=>c.getD 0 0+1
 |j+1=>min (c.getD j 0+if xs.getD j 0=r then 0 else 1) (min (c.getD (j+1) 0+1) (nx xs r c j+1))
theorem nx_le{xs:List Int}{r:Int}{c:List Nat}{d:Nat}(h:∀j,c.getD j 0≤d+1)(j:Nat):nx xs r c j≤d+2:=by
 cases j with
 |zero=>have:=h 0;simp only[nx];omega
 |succ j=>have:=h (j+1);simp only[nx];omega
def nxK(xs:List Int)(r:Int)(c:List Nat)(k:Nat):List Nat:=mk fun j=>if j≤k then nx xs r c j else 0
theorem zGp(xs:List Int)(r:Int)(c:List Nat)(k:Nat):(nxK xs r c k).length=25:=zCy _
theorem nxK_get(xs:List Int)(r:Int)(c:List Nat){k:Nat}(h:k<25):(nxK xs r c k).getD k 0=nx xs r c k:=by
 rw[nxK,zDq _ h];simp
theorem zQ6(xs:List Int)(r:Int)(c:List Nat){k:Nat}(h:k+1<25):(nxK xs r c k).set (k+1) (nx xs r c (k+1))=nxK xs r c (k+1):=by
 rw[nxK,zM8 _ _ h];refine zBf fun j _=>?_
 by_cases h1:j=k+1
 · subst h1;simp
 · rw[if_neg h1]
   by_cases h2:j≤k
   · rw[if_pos h2,if_pos (by omega)]
   · rw[if_neg h2,if_neg (by omega)]
def stepL(xs:List Int)(d:Nat)(s:List Nat)(r:Int):List Nat:=cutL xs.length d (nxK xs r (cutL xs.length d s) xs.length)
theorem zHx(xs:List Int)(d:Nat)(s:List Nat)(r:Int):(stepL xs d s r).length=25:=zCy _
theorem zGk(n d:Nat):(zFo n d).length=25:=zCy _
theorem zHl{n d:Nat}{s:List Nat}{j:Nat}(h:j<25):(cutL n d s).getD j 0=cutF n d s j:=zDq _ h
theorem zPd(n d:Nat)(s:List Nat)(j:Nat):(cutL n d s).getD j 0≤d+1:=by
 by_cases h:j<25
 · rw[zHl h];exact zXz _ _ _ _
 · rw[List.getD_eq_getElem?_getD,List.getElem?_eq_none (by rw[zDu];omega)];exact Nat.zero_le _
def rx(xs:List Int)(d:Nat)(r:Int)(s:List Nat):Nat→Nat
 |0=>min (min (s.getD 0 0) (d+1)+1) (d+1)
 |j+1=>min (min (min (min (s.getD j 0) (d+1)+if xs.getD j 0=r then 0 else 1) (min (s.getD (j+1) 0) (d+1)+1)) (rx xs d r s j+1)) (d+1)
def rxK(xs:List Int)(d:Nat)(r:Int)(s:List Nat)(k:Nat):List Nat:=mk fun j=>if j<k then rx xs d r s j else 0
theorem rxK_get(xs:List Int)(d:Nat)(r:Int)(s:List Nat){j k:Nat}(h:j<25)(hk:j<k):(rxK xs d r s k).getD j 0=rx xs d r s j:=by
 rw[rxK,zDq _ h,if_pos hk]
theorem rx_nx(xs:List Int)(d:Nat)(r:Int)(s:List Nat)(hn:xs.length≤24):∀j,j≤xs.length→rx xs d r s j=min (nx xs r (cutL xs.length d s) j) (d+1)
 |0,_=>by
  simp only[rx,nx,zHl (show 0<25 by omega),cutF,dd,Nat.zero_le,if_true]
 |j+1,h=>by
  have ih:=rx_nx xs d r s hn j (by omega);simp only[rx,nx];rw[ih,zHl (show j<25 by omega),zHl (show j+1<25 by omega)];simp only[cutF,dd,if_pos h,if_pos (show j≤xs.length by omega)];omega
theorem zQl{xs:List Int}(d:Nat)(r:Int)(s:List Nat)(hn:xs.length≤24):rxK xs d r s (xs.length+1)=stepL xs d s r:=by
 refine zBf fun j hj=>?_
 by_cases h:j≤xs.length
 · rw[if_pos (by omega),rx_nx xs d r s hn j h,cutF,nxK,zDq _ hj,if_pos h,dd,if_pos h]
 · rw[if_neg (by omega),cutF,dd,if_neg h];omega
def rowF(xs:List Int)(d:Nat)(t:List Int)(j:Nat):Nat:=min (lv t (xs.take j)) (d+1)
def rowK(xs:List Int)(d:Nat)(t:List Int)(k:Nat):List Nat:=mk fun j=>if j<k then rowF xs d t j else 0
def rowL(xs:List Int)(d:Nat)(t:List Int):List Nat:=rowK xs d t (xs.length+1)
theorem zBw(xs:List Int)(d:Nat)(t:List Int):(rowL xs d t).length=25:=zCy _
theorem zUs{xs:List Int}(d:Nat):zFo xs.length d=rowL xs d []:=by
 unfold zFo cutL rowL rowK;refine zBf fun j hj=>?_
 rw[cutF,zDq _ hj];by_cases h:j≤xs.length
 · rw[if_pos (by omega),dd,if_pos h,rowF,zCr,List.length_take,Nat.min_eq_left h]
 · rw[if_neg (by omega),dd,if_neg h];omega
theorem zFr{xs:List Int}(d:Nat)(t:List Int)(hn:xs.length≤24){j:Nat}(h:j≤xs.length):(rowL xs d t).getD j 0=rowF xs d t j:=by
 rw[rowL,rowK,zDq _ (by omega),if_pos (by omega)]
theorem rx_row{xs:List Int}(d:Nat)(t:List Int)(r:Int)(hn:xs.length≤24):∀j,j≤xs.length→rx xs d r (rowL xs d t) j=rowF xs d (t++[r]) j
 |0,_=>by
  simp only[rx,zFr d t hn (Nat.zero_le _),rowF,List.take_zero,zCz,List.length_append,List.length_singleton];omega
 |j+1,h=>by
  have ih:=rx_row d t r hn j (by omega);obtain⟨x,hx⟩:∃x,xs[j]?=some x:=⟨_,List.getElem?_eq_getElem (by omega)⟩;have ht:xs.take (j+1)=xs.take j++[x]:=by rw[List.take_add_one,hx];rfl
  have hg:xs.getD j 0=x:=by rw[List.getD_eq_getElem?_getD,hx];rfl
  simp only[rx];rw[ih,zFr d t hn (show j≤xs.length by omega),zFr d t hn h,hg];simp only[rowF];rw[ht,zV9];by_cases e:x=r
  · rw[if_pos e,if_pos e.symm];omega
  · rw[if_neg e,if_neg (fun h=>e h.symm)];omega
theorem zQk{xs:List Int}(d:Nat)(t:List Int)(r:Int)(hn:xs.length≤24):stepL xs d (rowL xs d t) r=rowL xs d (t++[r]):=by
 rw[←zQl d r _ hn];unfold rxK rowL rowK;refine zBf fun j hj=>?_
 by_cases h:j<xs.length+1
 · rw[if_pos h,if_pos h];exact rx_row d t r hn j (by omega)
 · rw[if_neg h,if_neg h]
def zNw(n d:Nat)(s:List Nat):Nat:=if s.getD n 0≤d then s.getD n 0 else 0
def zJc(n d:Nat)(s:List Nat):Bool:=decide (s.getD n 0≤d)
def zC5(n d:Nat)(s:List Nat):Bool:=!decide (cutL n d s=zFf n d)
theorem zIw{n d:Nat}{s:List Nat}(hn:n≤24):zC5 n d s=false↔∀j,j≤n→d<s.getD j 0:=by
 unfold zC5;simp only[Bool.not_eq_false',decide_eq_true_eq];constructor
 · intro h j hj
   have:=mk_inj h (show j<25 by omega);rw[cutF,dd,if_pos hj]at this;omega
 · intro h
   (refine zBf fun j _=>?_);rw[cutF];by_cases hj:j≤n
   · have:=h j hj
     rw[dd,if_pos hj];omega
   · rw[dd,if_neg hj];omega
theorem zOv{xs:List Int}{d:Nat}{s:List Nat}(r:Int)(h:∀j,j≤xs.length→d<s.getD j 0):∀j,j≤xs.length→rx xs d r s j=d+1
 |0,_=>by have:=h 0 (Nat.zero_le _);simp only[rx];omega
 |j+1,hj=>by
  have ih:=zOv r h j (by omega);have h1:=h j (by omega);have h2:=h (j+1) hj;simp only[rx];rw[ih];omega
theorem zMr{xs:List Int}(d:Nat)(r:Int)(s:List Nat)(hn:xs.length≤24){j:Nat}(h:j≤xs.length):(stepL xs d s r).getD j 0=rx xs d r s j:=by
 rw[←zQl d r s hn,rxK_get _ _ _ _ (by omega) (by omega)]
theorem zXt{xs:List Int}{d:Nat}{s:List Nat}(r:Int)(hn:xs.length≤24)(h:zC5 xs.length d s=false):zC5 xs.length d (stepL xs d s r)=false∧zJc xs.length d (stepL xs d s r)=false:=by
 have h1:=(zIw hn).1 h;refine⟨(zIw hn).2 fun j hj=>?_,?_⟩
 · rw[zMr d r s hn hj,zOv r h1 j hj];omega
 · rw[zJc,zMr d r s hn (Nat.le_refl _),zOv r h1 _ (Nat.le_refl _)];simp
theorem dist_row{xs:List Int}(d:Nat)(t:List Int)(hn:xs.length≤24):zJc xs.length d (rowL xs d t)=decide (lv t xs≤d)∧(lv t xs≤d→zNw xs.length d (rowL xs d t)=lv t xs):=by
 have e:(rowL xs d t).getD xs.length 0=min (lv t xs) (d+1):=by rw[zFr d t hn (Nat.le_refl _),rowF,List.take_length]
 refine⟨?_,fun h=>?_⟩
 · rw[zJc,e];apply decide_eq_decide.2;omega
 · rw[zNw,e,if_pos (by omega)];omega
end Lv
end
section
open Go.RowKit Nums Ed
def IBlk(w:World)(g:Nat)(cs:List Int):Prop:=w.heap[g]?=some (.cells (cs.map (Value.int .i64)).toArray 3 (0,0))
theorem IBlk.lt{w:World}{g:Nat}{cs:List Int}(h:IBlk w g cs):g<w.heap.size:=(Array.getElem?_eq_some_iff.1 h).1
theorem IBlk.cell{w:World}{g k:Nat}{cs:List Int}{x:Int}(h:IBlk w g cs)(hk:cs[k]?=some x):w.cell? ⟨g,k,none⟩=some (.int .i64 x):=by
 unfold IBlk at h;simp only[World.cell?,h];simp[hk]
theorem IBlk.frozen{w:World}{g:Nat}{cs:List Int}(h:IBlk w g cs)(k:Nat):w.frozen? ⟨g,k,none⟩=false:=by
 unfold IBlk at h;simp only[World.frozen?,h];simp
theorem IBlk.set{w:World}{g:Nat}{cs:List Int}(h:IBlk w g cs)(k:Nat)(x:Int):IBlk (w.setCell ⟨g,k,none⟩ (.int .i64 x)) g (cs.set k x):=by
 unfold IBlk at h ⊢;simp only[World.setCell,Array.getElem?_modify,h];simp[List.map_set]
theorem IBlk.same{w w':World}{g:Nat}{cs:List Int}(h:IBlk w g cs)(e:w'.heap[g]?=w.heap[g]?):IBlk w' g cs:=by
 unfold IBlk at h ⊢;rw[e];exact h
structure But(r:Nat)(w w':World):Prop where
 os:w'.os=w.os
 tape:w'.tape=w.tape
 output:w'.output=w.output
 size:w.heap.size≤w'.heap.size
 block:∀k,k<w.heap.size→k≠r→w'.heap[k]?=w.heap[k]?
theorem But.refl(r:Nat)(w:World):But r w w:=⟨rfl,rfl,rfl,Nat.le_refl _,fun _ _ _=>rfl⟩
theorem But.trans{r:Nat}{a b c:World}(h:But r a b)(k:But r b c):But r a c:=
 ⟨k.os.trans h.os,k.tape.trans h.tape,k.output.trans h.output,Nat.le_trans h.size k.size,fun i hi hr=>(k.block i (Nat.lt_of_lt_of_le hi h.size) hr).trans (h.block i hi hr)⟩
theorem But.of_below{r:Nat}{w w':World}(h:Below w.heap.size w w'):But r w w':=⟨h.os,h.tape,h.output,h.size,fun k hk _=>h.block k hk⟩
theorem But.below{r B:Nat}{w w':World}(h:But r w w')(hr:B≤r)(hB:B≤w.heap.size):Below B w w':=
 ⟨h.os,h.tape,h.output,h.size,fun k hk=>h.block k (by omega) (by omega)⟩
theorem But.setCell{r:Nat}{a w:World}(h:But r a w)(o:Nat)(u:Value):But r a (w.setCell ⟨r,o,none⟩ u):=
 h.trans ⟨rfl,rfl,rfl,by simp[World.setCell],fun k _ hk=>Below.heap_setCell _ _ _ _ hk⟩
theorem IBlk.alloc{w:World}{g:Nat}{cs:List Int}(h:IBlk w g cs)(o:Obj):IBlk (w.alloc o) g cs:=h.same (Below.heap_alloc _ _ _ h.lt)
theorem But.alloc{r:Nat}{a w:World}(h:But r a w)(o:Obj):But r a (w.alloc o):=h.trans (But.of_below ((Below.refl _ w).alloc (Nat.le_refl _) o))
theorem zW4:(Tryz.prog.info? 3).map (fun i=>(i.zero,i.size,i.bytes))=some (some (.int .i64 0),1,8):=by kernel_rfl
theorem zIv{w:World}{g off n cap nb c:Nat}{cs:List Int}{x:Int}(h:IBlk w g cs)(hx:w.cell? ⟨nb,0,none⟩=some (.int .i64 x))(hn:n<cap)(ho:off+n<cs.length)(ty:TypeId):
 (Builtin.append_ #[115,115] ty #[.slice (some ⟨g,off,none⟩) n cap,.slice (some ⟨nb,0,none⟩) 1 c]).run Tryz.prog w = .ok (.slice (some ⟨g,off,none⟩) (n+1) cap) (w.setCell ⟨g,off+n,none⟩ (.int .i64 x)):=by
 obtain⟨i0,hi,hz0,hz1,hz2⟩:=info_parts zW4;have hadd:∀j,(⟨nb,0,none⟩:Addr).add j=⟨nb,0+j,none⟩:=fun j=>by unfold Addr.add;split<;>simp_all
 have hc:w.cell? ⟨g,off+n,none⟩=some (.int .i64 cs[off+n]):=h.cell (List.getElem?_eq_getElem ho);have hr:=run_append_room_cells (P:=Tryz.prog) w 115 ty 3 i0 Tryz.underlying115 hi g off n cap ⟨nb,0,none⟩ 1 c [.int .i64 x] (by rw[hz1];rfl) (fun j u hj=>by
  match j,hj with
  |0,hj=>simp at hj;subst hj;rw[hadd];exact hx) (by simp[Value.oneCell']) (by omega) (fun j hj=>by
   rw[hz1];simp at hj;subst hj;simp[hc]) (fun j hj=>h.frozen _)
 rw[hr,hz1];simp[World.setCells]
theorem zR5{W:World}{ops:Array Oper}{rest:List Oper}{o:Oper}{a:Act}{Q:Exit→Act→World→Prop}(hgd:o.guard=none)(s y:Operand)(T2:TypeId)
 (ho:o.op = .call { callee := .builtin .append,args:=#[s,y],argTypes:=#[115,115] }) (g off n cap c nb:Nat) (cs:List Int) (x:Int) (hs:a.eval s = .slice (some ⟨g,off,none⟩) n cap) (hy:a.eval y = .slice (some ⟨nb,0,none⟩) 1 c) (hnb:nb=W.heap.size) (hB:IBlk W g cs) (hn:n<cap) (hl:off+n<cs.length)
 (h:∀w',IBlk w' g (cs.set (off+n) x)→But g W w'→wpList Tryz.prog ops Q rest (a.put o.dst (.slice (some ⟨g,off,none⟩) (n+1) cap)) w'):wpList Tryz.prog ops Q (o::rest) a (W.alloc (.cells #[.int .i64 x] T2)):=by
 subst hnb;have h1:=zIv (nb:=W.heap.size) (c:=c) (x:=x) (hB.alloc (.cells #[.int .i64 x] T2)) (by simp) hn hl o.type;refine wpList_plain hgd fun _ hK=>?_
 unfold Oper.wp execOp;simp only[ho,resolve,invoke,builtin,Sem.run_bind,Sem.run_pure,Result.andThen_ok,List.map_toArray,List.map_cons,List.map_nil,hs,hy,h1];exact hK _ _ (h _ ((hB.alloc _).set _ _) (((But.refl g W).alloc _).setCell _ _))
theorem Made.runesE{B:Nat}{w:World}{v:Value}{xs:List Int}(h:Made B w v xs):RunesAt w.heap.size w v xs:=by
 obtain⟨hl,hn|⟨g,cap,cur,rfl,hb,hg,h1,h2,h3,h4⟩⟩:=h
 · obtain⟨rfl,h0⟩:=hn
   exact⟨none,0,by rw[h0],fun h=>by omega⟩
 · refine⟨_,_,rfl,fun _=>⟨g,0,rfl,(Array.getElem?_eq_some_iff.1 hg).1,fun i x hi=>?_⟩⟩
   have hi':=(List.getElem?_eq_some_iff.1 hi).1;have hc:cur[i]?=some (.int .i32 x):=by
    (have e:(cur.toList.take (xs.length*1))[i]?=(xs.map (Value.int .i32))[i]?:=by rw[h4]);rw[List.getElem?_take,if_pos (by omega)]at e;rw[←Array.getElem?_toList,e,List.getElem?_map,hi];rfl
   simp only[World.cell?,hg,Nat.zero_add];simpa using hc
theorem RunesAt.form{E:Nat}{w:World}{v:Value}{xs:List Int}(h:RunesAt E w v xs):∃ad cap,v = .slice ad xs.length cap:=by
 obtain⟨ad,cap,e,_⟩:=h;exact⟨ad,cap,e⟩
theorem RunesAt.at{E:Nat}{w:World}{ad:Option Addr}{n cap:Nat}{xs:List Int}(h:RunesAt E w (.slice ad n cap) xs){k:Nat}{x:Int}(hk:xs[k]?=some x):∃g off,ad=some ⟨g,off,none⟩∧g<E∧w.cell? ⟨g,off+k,none⟩=some (.int .i32 x):=by
 obtain⟨ad',cap',e,hc⟩:=h;simp only[Value.slice.injEq]at e;obtain⟨rfl,_,rfl⟩:=e;obtain⟨g,off,rfl,hg,hx⟩:=hc (by have:=(List.getElem?_eq_some_iff.1 hk).1;omega);exact⟨g,off,rfl,hg,hx k x hk⟩
theorem zUm(p ys:List Int){k:Nat}(h:k≤ys.length):(dr p ys).take (k+1)=(dr p ys).take k++[(lv p (ys.take k):Int)]:=by
 rw[List.take_add_one,zNu _ _ h];rfl
theorem zUj(p ys:List Int){k:Nat}(h:k≤ys.length+1):((dr p ys).take k).length=k:=by rw[List.length_take,zIm];omega
theorem zUt(w:World)(g off cap:Nat)(cs ys:List Int)(hB:IBlk w g cs)(hcap:ys.length<cap)(hl:off+ys.length<cs.length)(hs:ys.length≤100000):
 Calls Tryz.prog 134 #[.slice (some ⟨g,off,none⟩) 0 cap,.int .i64 ys.length] w fun e w'=>e = .returned (.slice (some ⟨g,off,none⟩) (ys.length+1) cap)∧IBlk w' g (lay cs off (dr [] ys))∧But g w w':=by
 obtain⟨n,hn⟩:∃n,n=ys.length:=⟨_,rfl⟩;rw[←hn]at hcap hl hs ⊢;have HN:Hid (n=ys.length):=hn;clear hn;go_enter Tryz.func134,Tryz.ntmps134;go_wp2
 go_loopw [0,8] (fun v i wr=>∃k:Nat,k≤n+1∧i = .int .i64 k∧v = .slice (some ⟨g,off,none⟩) k cap∧IBlk wr g (lay cs off ((dr [] ys).take k))∧But g w wr) (fun _ i _=>n+1-(intOf i).toNat)
 case atStart=>exact⟨0,by omega,rfl,rfl,by rw[List.take_zero,zWl];exact hB,But.refl _ _⟩
 case round=>
  obtain⟨k,hk,rfl,rfl,hI,hbut⟩:=hrel;have HI:Hid (IBlk wr g (lay cs off ((dr [] ys).take k))):=hI;clear hI;by_cases hlt:k<n+1
  · have hlen:Hid (((dr [] ys).take k).length=k):=zUj _ _ (by have:=HN.out;omega)
    have hcl:Hid ((lay cs off ((dr [] ys).take k)).length=cs.length):=zLj (by rw[hlen.out];omega);go_wp2_with (at_builtin;refine zR5 rfl _ _ _ rfl g off k cap _ _ (lay cs off ((dr [] ys).take k)) (k:Int) rfl rfl rfl HI.out (by omega) (by rw[hcl.out];omega) ?_);intro w1 hI1 hb1;have HI1:Hid (IBlk w1 g (lay cs off ((dr [] ys).take (k+1)))):=by
     have e:=zPb (cs:=cs) (L:=(dr [] ys).take k) (b:=off) (by rw[hlen.out];omega) (k:Int);rw[hlen.out]at e;rw[e]at hI1;rw[List.take_add_one,dr_start _ (by have:=HN.out;omega)];exact hI1
    clear hI1;go_wp2
    go_roundw
    (case rel=>exact⟨k+1,by omega,by go_num,rfl,HI1.out,hbut.trans hb1⟩);case measure=>simp[intOf];omega
  · obtain rfl:k=n+1:=by omega
    go_wp2;go_ret;refine⟨rfl,?_,hbut⟩;have:=HI.out
    rwa [HN.out,List.take_of_length_le (by rw[zIm];omega)]at this
theorem new_cell(w:World)(v:Value)(T:TypeId):(w.alloc (.cells #[v] T)).cell? ⟨w.heap.size,0,none⟩=some v:=by simp
def min3(a b c:Int):Int:=if c<(if b<a then b else a)then c else (if b<a then b else a)
theorem zKu(ts:Array TypeId)(ty:TypeId)(k:IntKind)(a b c:Int)(w:World):(Builtin.min_ ts ty #[.int k a,.int k b,.int k c]).run Tryz.prog w = .ok (.int k (min3 a b c)) w:=by
 simp[Builtin.min_,Builtin.min2,min3,Sem.run_pure]
theorem zXm{ρ:Operand→Value}{x y z:Operand}{ts:Array TypeId}{dst:Option Tmp}{ty:TypeId}{pos:String}{af:Array Edge}{g:Option (Nat×Bool)}{w:World}{k:IntKind}{a b c:Int}(hx:ρ x = .int k a)(hy:ρ y = .int k b)(hz:ρ z = .int k c):
 (execOp ρ ⟨dst,.call { callee := .builtin .min,args:=#[x,y,z],argTypes:=ts },ty,pos,af,g⟩).run Tryz.prog w = .ok (.value (.int k (min3 a b c))) w:=by
 unfold execOp;simp only[resolve,invoke,builtin,Sem.run_bind,Sem.run_pure,Result.andThen_ok,List.map_toArray,List.map_cons,List.map_nil,hx,hy,hz,zKu]
theorem zXo{P:Program}{ρ:Operand→Value}{x y:Operand}{t:TypeId}{dst:Option Tmp}{ty:TypeId}{pos:String}{af:Array Edge}{g:Option (Nat×Bool)}{w w':World}{v:Value}(h:(Builtin.append_ #[t,t] ty #[ρ x,ρ y]).run P w = .ok v w'):
 (execOp ρ ⟨dst,.call { callee := .builtin .append,args:=#[x,y],argTypes:=#[t,t] },ty,pos,af,g⟩).run P w = .ok (.value v) w':=by
 unfold execOp;simp only[resolve,invoke,builtin,Sem.run_bind,Sem.run_pure,Result.andThen_ok,List.map_toArray,List.map_cons,List.map_nil,h]
theorem next_any(w:World)(g off a cap capa:Nat)(cs p ys:List Int)(r:Int)(vy:Value)(E:Nat)(hB:IBlk w g cs)(hcap:ys.length<cap)(hl:off+ys.length<cs.length)
 (hA:∀j,j≤ys.length→cs[a+j]?=some (lv p (ys.take j):Int)) (hap:a+ys.length<off∨off+ys.length<a) (hy:RunesAt E w vy ys) (hE:E≤g) (hs:ys.length≤100000) (hps:p.length≤100000):
 Calls Tryz.prog 135 #[.slice (some ⟨g,off,none⟩) 0 cap,.slice (some ⟨g,a,none⟩) (ys.length+1) capa,.int .i32 r,vy] w fun e w'=>e = .returned (.slice (some ⟨g,off,none⟩) (ys.length+1) cap)∧IBlk w' g (lay cs off (dr (p++[r]) ys))∧But g w w':=by
 obtain⟨ady,capy,rfl⟩:=hy.form;obtain⟨n,hn⟩:∃n,n=ys.length:=⟨_,rfl⟩;rw[←hn]at hcap hl hs hap hA hy ⊢;have HN:Hid (n=ys.length):=hn;clear hn;have HA:Hid (∀j,j≤n→cs[a+j]?=some (lv p (ys.take j):Int)):=hA;clear hA;have hc0:w.cell? ⟨g,a,none⟩=some (.int .i64 (p.length:Int)):=by
  have:=HA.out 0 (Nat.zero_le _);rw[List.take_zero,zCz]at this;exact hB.cell this
 have HB:Hid (IBlk w g cs):=hB;have hgl:=hB.lt;clear hB;go_enter Tryz.func135,Tryz.ntmps135;go_wp2_with (at_builtin;refine zR5 rfl _ _ _ rfl g off 0 cap _ _ cs ((p.length:Int)+1) rfl rfl rfl HB.out (by omega) (by omega) ?_);intro w1 hI1 hb1;have HI1:Hid (IBlk w1 g (lay cs off ((dr (p++[r]) ys).take 1))):=by
  have e:=zPb (cs:=cs) (L:=[]) (b:=off) (by simp;omega) ((p.length:Int)+1);rw[zWl]at e;simp only[List.length_nil,Nat.add_zero]at e;rw[e]at hI1;rw[zUm _ _ (Nat.zero_le _),List.take_zero,List.take_zero,zCz,List.nil_append];exact(by simpa using hI1:IBlk w1 g (lay cs off [((p++[r]).length:Int)]))
 clear hI1 hc0;go_wp2
 go_loopw [0,21] (fun v i wr=>∃k:Nat,k≤n∧i = .int .i64 k∧v = .slice (some ⟨g,off,none⟩) (k+1) cap∧IBlk wr g (lay cs off ((dr (p++[r]) ys).take (k+1)))∧But g w wr) (fun _ i _=>n-(intOf i).toNat)
 case atStart=>exact⟨0,by omega,rfl,rfl,HI1.out,hb1⟩
 case round=>
  obtain⟨k,hk,rfl,rfl,hI,hbut⟩:=hrel;have HI:Hid (IBlk wr g (lay cs off ((dr (p++[r]) ys).take (k+1)))):=hI;clear hI;by_cases hlt:k<n
  · have hlen:Hid (((dr (p++[r]) ys).take (k+1)).length=k+1):=zUj _ _ (by have:=HN.out;omega)
    have hcl:Hid ((lay cs off ((dr (p++[r]) ys).take (k+1))).length=cs.length):=zLj (by rw[hlen.out];omega);(have hky:k<ys.length:=by have:=HN.out;omega);obtain⟨s,hs'⟩:∃s,ys[k]?=some s:=⟨_,List.getElem?_eq_getElem hky⟩;have HS:Hid (ys[k]?=some s):=hs';clear hs';obtain⟨gy,offy,rfl,hgy,hcy⟩:=(hy.below (hbut.below hE (by omega))).at HS.out;have hA0:wr.cell? ⟨g,a+k,none⟩=some (.int .i64 (lv p (ys.take k):Int)):=HI.out.cell (by rw[zWk (by rw[hlen.out];omega) (by rw[hlen.out];omega)];exact HA.out k (by omega));have hA1:wr.cell? ⟨g,a+(k+1),none⟩=some (.int .i64 (lv p (ys.take (k+1)):Int)):=HI.out.cell (by rw[zWk (by rw[hlen.out];omega) (by rw[hlen.out];omega)];exact HA.out (k+1) (by omega));have hR0:wr.cell? ⟨g,off+k,none⟩=some (.int .i64 (lv (p++[r]) (ys.take k):Int)):=HI.out.cell (by rw[zWm (by rw[hlen.out];omega) (by rw[hlen.out];omega),List.getElem?_take,if_pos (by omega),zNu _ _ (by omega)]);have b0:=dr_bd p ys k;have b1:=dr_bd p ys (k+1);have b2:=dr_bd (p++[r]) ys k;rw[List.length_append,List.length_singleton,←HN.out]at b2;rw[←HN.out]at b0 b1;have HNX:Hid _:=dr_next p ys r HS.out;generalize hd0:lv p (ys.take k)=d0 at *;generalize hd1:lv p (ys.take (k+1))=d1 at *;generalize hd2:lv (p++[r]) (ys.take k)=d2 at *;clear hd0 hd1 hd2;obtain⟨q,hq⟩:∃q,q=k+1:=⟨_,rfl⟩;rw[←hq]at hA1;(have hwq:IntKind.i64.wrap ((k:Int)+1)=(q:Int):=by rw[IntKind.wrap_i64];omega);(have hqn:(q:Int)<(n:Int)+1:=by omega);(have hq0:(0:Int)≤(q:Int):=by omega);(have hkn:(k:Int)<(k:Int)+1:=by omega);have hqt:(q:Int).toNat=q:=rfl;(have hwd1:IntKind.i64.wrap ((d1:Int)+1)=(d1:Int)+1:=by rw[IntKind.wrap_i64];omega);(have hwd2:IntKind.i64.wrap ((d2:Int)+1)=(d2:Int)+1:=by rw[IntKind.wrap_i64];omega);have HQ:Hid (q=k+1):=hq;clear hq;obtain⟨d3,hd3⟩:∃d3,d3=lv (p++[r]) (ys.take (k+1)):=⟨_,rfl⟩;rw[←hd3]at HNX;have HD3:Hid (d3=lv (p++[r]) (ys.take (k+1))):=hd3;clear hd3;have hS0:wr.drew.cell? ⟨g,a+q,none⟩=some (.int .i64 (d1:Int))∧wr.drew.cell? ⟨g,off+k,none⟩=some (.int .i64 (d2:Int)):=⟨hA1,hR0⟩;obtain⟨W4,hW4⟩:∃W4,W4=wr.drew.alloc (.cells #[.int .i64 (d3:Int)] 3):=⟨_,rfl⟩;(have hI4:IBlk W4 g (lay cs off ((dr (p++[r]) ys).take (k+1))):=by rw[hW4];exact IBlk.alloc (w:=wr.drew) HI.out _);have hS4:W4.cell? ⟨g,a+q,none⟩=some (.int .i64 (d1:Int))∧W4.cell? ⟨g,off+k,none⟩=some (.int .i64 (d2:Int)):=by
     (have hb:Below wr.drew.heap.size wr.drew W4:=by rw[hW4];exact(Below.refl _ _).alloc (Nat.le_refl _) _);have hlt':g<wr.drew.heap.size:=HI.out.lt;exact⟨(hb.cell (p:=⟨g,a+q,none⟩) hlt').trans hS0.1,(hb.cell (p:=⟨g,off+k,none⟩) hlt').trans hS0.2⟩
    have hap4:=zIv (x:=(d3:Int)) (nb:=wr.drew.heap.size) (c:=1) (n:=k+1) (cap:=cap) (off:=off) hI4 (by rw[hW4];exact new_cell wr.drew _ _) (by omega) (by rw[hcl.out];omega) 115;obtain⟨W5,hW5⟩:∃W5,W5=W4.setCell ⟨g,off+(k+1),none⟩ (.int .i64 (d3:Int)):=⟨_,rfl⟩;rw[←hW5]at hap4;have HAP:Hid ((Builtin.append_ #[115,115] 115 #[.slice (some ⟨g,off,none⟩) (k+1) cap,.slice (some ⟨wr.drew.heap.size,0,none⟩) 1 1]).run Tryz.prog W4 = .ok (.slice (some ⟨g,off,none⟩) (k+1+1) cap) W5):=hap4;have hS5:W5.cell? ⟨g,a+q,none⟩=some (.int .i64 (d1:Int))∧W5.cell? ⟨g,off+k,none⟩=some (.int .i64 (d2:Int)):=by
     rw[hW5];refine⟨?_,?_⟩
     · rw[World.cell?_setCell_other _ _ _ _ (by intro e;have h2:off+(k+1)=a+q:=congrArg Addr.off e;have:=HQ.out;omega)];exact hS4.1
     · rw[World.cell?_setCell_other _ _ _ _ (by simp)];exact hS4.2
    have HB5:Hid (But g wr W5):=by
     show But g wr W5;rw[hW5];refine But.setCell ?_ _ _;rw[hW4];exact((show But g wr wr.drew from⟨rfl,rfl,rfl,Nat.le_refl _,fun _ _ _=>rfl⟩).alloc _)
    have HI5:Hid (IBlk W5 g (lay cs off ((dr (p++[r]) ys).take (k+1+1)))):=by
     show IBlk W5 g (lay cs off ((dr (p++[r]) ys).take (k+1+1)));have e:=zPb (cs:=cs) (L:=(dr (p++[r]) ys).take (k+1)) (b:=off) (by rw[hlen.out];omega) (d3:Int);rw[hlen.out]at e;rw[zUm (p++[r]) ys (k:=k+1) (by have:=HN.out;omega),←HD3.out,←e,hW5];exact hI4.set _ _
    have HW5:Hid (W5=W4.setCell ⟨g,off+(k+1),none⟩ (.int .i64 (d3:Int))):=hW5;clear hW5 hI4 hap4;by_cases hsr:s=r
    focus
     subst hsr;have HM:Hid (min3 (d0:Int) ((d1:Int)+1) ((d2:Int)+1)=(d3:Int)):=by
      have:=HNX.out;rw[if_pos rfl]at this;unfold Hid min3
      split<;>split at*<;> omega
     go_wp2
    rotate_left
    focus
     (have hsb:(s != r)=true:=by simpa using hsr);(have hwd0:IntKind.i64.wrap ((d0:Int)+1)=(d0:Int)+1:=by rw[IntKind.wrap_i64];omega);have HM:Hid (min3 ((d0:Int)+1) ((d1:Int)+1) ((d2:Int)+1)=(d3:Int)):=by
      have:=HNX.out;rw[if_neg hsr]at this;unfold Hid min3
      split<;>split at*<;> omega
     clear hsr;go_wp2
    all_goals
     refine zAh (S:=fun W=>W.cell? ⟨g,a+q,none⟩=some (.int .i64 (d1:Int))∧W.cell? ⟨g,off+k,none⟩=some (.int .i64 (d2:Int))) 17 rfl zAr hS0 (fun _=>?_);refine tq4 id 0 35 1 36 2 37 3 38 ?_;simp only[sZa,sZb,sZc];refine tq4 id 4 39 5 40 6 41 7 42 ?_;simp only[sZa,sZb,sZc];refine tq4 id 8 43 9 44 10 45 11 46 ?_;simp only[sZa,sZb,sZc];refine tq id 12 47 ?_;simp only[sZa,sZb,sZc];refine zAo (i:=13) (v := .int .i64 (d3:Int)) (w':=wr.drew) 48 (by kernel_rfl) rfl rfl (by rfl) ((zXm rfl rfl rfl).trans (by rw[HM.out])) hS0 (fun _=>?_);simp only[sZa,sZb,sZc];refine zAo (i:=14) (v := .slice (some ⟨wr.drew.heap.size,0,none⟩) 1 1) (w':=W4) 49 (by kernel_rfl) rfl rfl (by rfl) (by rw[hW4];go_simp;first|done|exact rfl) hS4 (fun _=>?_);simp only[sZa,sZb,sZc];refine zAo (i:=15) (v := .slice (some ⟨g,off,none⟩) (k+1+1) cap) (w':=W5) 50 (by kernel_rfl) rfl rfl (by rfl) (zXo HAP.out) hS5 (fun _=>?_);simp only[sZa,sZb,sZc];refine zAo (i:=16) (v := .slice (some ⟨g,off,none⟩) (k+1+1) cap) (w':=W5) 0 (by kernel_rfl) rfl rfl (by rfl) (by kernel_rfl) hS5 (fun _=>?_);simp only[List.setIfInBounds_toArray,List.set_cons_zero];refine wpAnyH_done (by kernel_rfl) ?_ _;clear HAP hS0 hS4 hS5 hA0 hA1 hR0 hcy HM hW4 HW5;go_wp2
     go_roundw
     (case rel=>exact⟨k+1,by omega,by rw[HQ.out],rfl,HI5.out,hbut.trans HB5.out⟩);case measure=>simp[intOf];have:=HQ.out;omega
  · obtain rfl:k=n:=by omega
    go_wp2;go_ret;refine⟨rfl,?_,hbut⟩;have:=HI.out
    rwa [HN.out,List.take_of_length_le (by rw[zIm];omega)]at this
theorem zQx(s:ByteArray)(w:World)(ht:Tabs w)(hm:s.size≤9223372036854775807):
 Calls Tryz.prog 155 #[.string s] w fun e w'=>∃v f,e = .returned (.tuple #[v,.bool f])∧Below w.heap.size w w' ∧
  ((f=false∧rsE s.data.toList=none)∨(f=true∧∃xs,rsE s.data.toList=some xs∧Made w.heap.size w' v xs)):=by
 by_cases hlen:4096<s.size
 · have HF:Hid (rsE s.data.toList=none):=rsE_far (by rw[zAk];exact hlen)
   go_enter Tryz.func155,Tryz.ntmps155;go_wp2;go_ret2;exact⟨_,_,rfl,Below.refl _ _,.inl ⟨rfl,HF.out⟩⟩
 · have HR:Hid (Room s.data.toList):=zE2 (by rw[zAk];omega)
   go_enter Tryz.func155,Tryz.ntmps155;go_upto_region 4 with(go_at_call 73;refine(zGe s _ ht (by omega) HR.out).mono ?_;rintro e w1 ⟨v,hb1,⟨hn,rfl,rfl⟩|⟨xs,hsome,rfl,hmade⟩⟩)
   · have HF:Hid (rsE s.data.toList=none):=zQr hn
     clear hn;go_wp2;go_returns;exact⟨_,_,rfl,hb1,.inl ⟨rfl,HF.out⟩⟩
   · obtain⟨ad,cap,rfl⟩:=hmade.runesE.form
     by_cases hx:xs.length≤1024
     · have HF:Hid (rsE s.data.toList=some xs):=zKv hsome hx
       clear hsome;go_wp2;go_returns;exact⟨_,_,rfl,hb1,.inr ⟨by simp;omega,xs,HF.out,hmade⟩⟩
     · have HF:Hid (rsE s.data.toList=none):=zQs hsome hx
       clear hsome;go_wp2;go_returns;exact⟨_,_,rfl,hb1,.inl ⟨by simp;omega,HF.out⟩⟩
def zSd(w w':World)(a b:List UInt8)(v u:Value)(f:Bool):Prop:=
 Below w.heap.size w w'∧((f=false∧dsE a b=none)∨(f=true∧∃xs ys,rsE a=some xs∧rsE b=some ys∧Made w.heap.size w' v xs∧Made w.heap.size w' u ys))
theorem Made.mono{B B':Nat}{w:World}{v:Value}{xs:List Int}(h:Made B w v xs)(hB:B'≤B):Made B' w v xs:=by
 obtain⟨hl,hn|⟨g,cap,cur,rfl,h1,h2⟩⟩:=h
 · exact⟨hl,.inl hn⟩
 · exact⟨hl,.inr ⟨g,cap,cur,rfl,by omega,h2⟩⟩
theorem both_any(a b:ByteArray)(w:World)(ht:Tabs w)(ha:a.size≤9223372036854775807)(hb:b.size≤9223372036854775807):
 Calls Tryz.prog 132 #[.string a,.string b] w fun e w'=>∃v u f,e = .returned (.tuple #[v,u,.bool f])∧zSd w w' a.data.toList b.data.toList v u f:=by
 go_enter Tryz.func132,Tryz.ntmps132;go_upto_region 2 with(go_at_call 155;refine(zQx a _ ht ha).mono ?_;rintro e w1 ⟨v,f,rfl,hb1,hcase⟩)
 have ht1:Tabs w1:=ht.below hb1;go_upto_region 3 with(go_at_call 155;refine(zQx b _ ht1 hb).mono ?_;rintro e w2 ⟨u,f2,rfl,hb2,hcase2⟩)
 have hb12:Below w.heap.size w w2:=hb1.trans (hb2.mono hb1.size);have HF:Hid (zSd w w2 a.data.toList b.data.toList v u (f&&f2)):=by
  refine⟨hb12,?_⟩;rcases hcase with⟨rfl,h1⟩|⟨rfl,xs,h1,m1⟩
  · exact .inl ⟨rfl,dsE_left h1⟩
  · rcases hcase2 with⟨rfl,h2⟩|⟨rfl,ys,h2,m2⟩
    · exact .inl ⟨rfl,zXr h2⟩
    · exact .inr ⟨rfl,xs,ys,h1,h2,m1.below hb2,m2.mono hb1.size⟩
 clear hcase hcase2 hb12;cases f
 all_goals
  go_wp2;go_returns;exact⟨_,_,_,rfl,HF.out⟩
def LBlk(w:World)(gl:Nat)(vs:List Value):Prop:=w.heap[gl]?=some (.cells vs.toArray 115 (0,0))
theorem LBlk.lt{w:World}{g:Nat}{vs:List Value}(h:LBlk w g vs):g<w.heap.size:=(Array.getElem?_eq_some_iff.1 h).1
theorem LBlk.cell{w:World}{g k:Nat}{vs:List Value}{x:Value}(h:LBlk w g vs)(hk:vs[k]?=some x):w.cell? ⟨g,k,none⟩=some x:=by
 unfold LBlk at h;simp only[World.cell?,h];simp[hk]
theorem LBlk.frozen{w:World}{g:Nat}{vs:List Value}(h:LBlk w g vs)(k:Nat):w.frozen? ⟨g,k,none⟩=false:=by
 unfold LBlk at h;simp only[World.frozen?,h];simp
theorem LBlk.set{w:World}{g:Nat}{vs:List Value}(h:LBlk w g vs)(k:Nat)(x:Value):LBlk (w.setCell ⟨g,k,none⟩ x) g (vs.set k x):=by
 unfold LBlk at h ⊢;simp only[World.setCell,Array.getElem?_modify,h];simp
def zHz(g W n k:Nat):List Value:=(List.range n).map fun i=>if i<k then .slice (some ⟨g,i*W,none⟩) 0 W else .slice none 0 0
theorem zD3(g W n k:Nat):(zHz g W n k).length=n:=by simp[zHz]
theorem zDb(g W n k:Nat){i:Nat}(h:i<n):(zHz g W n k)[i]?=some (if i<k then .slice (some ⟨g,i*W,none⟩) 0 W else .slice none 0 0):=by
 unfold zHz;rw[List.getElem?_map,List.getElem?_range h];rfl
theorem zU2(g W n k:Nat):(zHz g W n k).set k (.slice (some ⟨g,k*W,none⟩) 0 W)=zHz g W n (k+1):=by
 apply List.ext_getElem?;intro i;rw[List.getElem?_set];by_cases hi:i<n
 · rw[zDb _ _ _ _ hi,zDb _ _ _ _ hi,zD3]
   by_cases e:k=i
   · subst e;rw[if_pos rfl,if_pos hi,if_pos (by omega)]
   · rw[if_neg e]
     by_cases c:i<k
     · rw[if_pos c,if_pos (by omega)]
     · rw[if_neg c,if_neg (by omega)]
 · rw[List.getElem?_eq_none (by rw[zD3];omega),List.getElem?_eq_none (by rw[zD3];omega),zD3]
   split
   · rw[if_neg (by omega)]
   · rfl
theorem zSs(g W n:Nat):zHz g W n 0=List.replicate n (.slice none 0 0):=by
 apply List.ext_getElem?;intro i;by_cases hi:i<n
 · rw[zDb _ _ _ _ hi,if_neg (by omega),List.getElem?_replicate,if_pos hi]
 · rw[List.getElem?_eq_none (by rw[zD3];omega),List.getElem?_eq_none (by simp;omega)]
theorem zW3:(Tryz.prog.info? 115).map (fun i=>(i.zero,i.size,i.bytes))=some (some (.slice none 0 0),1,24):=by kernel_rfl
theorem zM2{w:World}{B g n:Nat}{T:TypeId}{xs:List Value}(h:w.ownsRow B T 1 (.slice (some ⟨g,0,none⟩) n n) n xs):w.heap[g]?=some (.cells xs.toArray T (0,0)):=by
 obtain⟨hl,⟨e,_⟩|⟨g',cap,cur,e,h1,hg,h2,h3,h4,h5⟩⟩:=h
 · cases e
 · simp only[Value.slice.injEq,Option.some.injEq,Addr.mk.injEq]at e
   obtain⟨⟨rfl,_,_⟩,_,rfl⟩:=e;rw[hg];have:cur=xs.toArray:=by
    rw[←h5,List.take_of_length_le (by rw[Array.length_toList,h4];omega)]
   rw[this]
theorem zV5(N:Nat):(madeCells (Value.int .i64 0).cells (N*1)).toList=(List.replicate N (0:Int)).map (Value.int .i64):=by
 rw[show(Value.int .i64 0).cells=#[.int .i64 0]from rfl,Nat.mul_one,toList_madeCells_one,List.map_replicate]
theorem zO9(N:Nat):(madeCells (Value.slice none 0 0).cells (N*1)).toList=List.replicate N (Value.slice none 0 0):=by
 rw[show(Value.slice none 0 0).cells=#[.slice none 0 0]from rfl,Nat.mul_one,toList_madeCells_one]
theorem rows_any(n W:Nat)(w:World)(hn1:1≤n)(hW1:1≤W)(hn:n≤100000)(hW:W≤100000):
 Calls Tryz.prog 133 #[.int .i64 n,.int .i64 W] w fun e w'=>∃g gl,e = .returned (.slice (some ⟨gl,0,none⟩) n n)∧LBlk w' gl (zHz g W n n)∧IBlk w' g (List.replicate (n*W) 0)∧Below w.heap.size w w'∧w.heap.size≤g∧w.heap.size≤gl∧gl≠g:=by
 obtain⟨i0,hi,hz0,hz1,hz2⟩:=info_parts zW4;obtain⟨i1,hi1,hy0,hy1,hy2⟩:=info_parts zW3;obtain⟨N,hN⟩:∃N,N=n*W:=⟨_,rfl⟩;have hNb:N≤10000000000:=by rw[hN];exact Nat.le_trans (Nat.mul_le_mul hn hW) (by decide)
 have hwN:IntKind.i64.wrap ((n:Int)*(W:Int))=(N:Int):=by rw[←Int.natCast_mul,←hN,IntKind.wrap_i64];omega
 have HN:Hid (N=n*W):=hN;rw[←hN];clear hN;go_enter Tryz.func133,Tryz.ntmps133;go_upto_region 2 with(at_make;refine wpList_make_full _ rfl _ _ 115 rfl w.heap.size 3 i0 (.int .i64 0) 1 Tryz.underlying115 hi hz0 hz1 _ _ _ _ N rfl rfl rfl rfl (by rw[hz2];omega) (by unfold maxLen;omega) (Nat.le_refl _) ?_;intro w1 hown1 hgrow1)
 have hI1:IBlk w1 w.heap.size (List.replicate N 0):=by
  have:=zM2 hown1;unfold IBlk;rw[this,zV5]
 have hs1:=hgrow1.size;have hb1:Below w.heap.size w w1:=(Below.refl _ w).grown hgrow1 (Nat.le_refl _) (fun k hk=>by cases hk);clear hown1 hgrow1;obtain⟨g,hg⟩:∃g,g=w.heap.size:=⟨_,rfl⟩;rw[←hg]at hI1;simp only[←hg];have HG:Hid (g=w.heap.size):=hg;have hgl1:=hI1.lt;clear hg;have HI1:Hid (IBlk w1 g (List.replicate N 0)):=hI1;clear hI1;go_upto_region 3 with(at_make;refine wpList_make_full _ rfl _ _ 221 rfl w1.heap.size 115 i1 (.slice none 0 0) 1 Tryz.underlying221 hi1 hy0 hy1 _ _ _ _ n rfl rfl rfl rfl (by rw[hy2];omega) (by unfold maxLen;omega) (Nat.le_refl _) ?_;intro w2 hown2 hgrow2)
 have hL2:LBlk w2 w1.heap.size (zHz g W n 0):=by
  have:=zM2 hown2;unfold LBlk;rw[this,zO9,zSs]
 have hb2:Below w1.heap.size w1 w2:=(Below.refl _ w1).grown hgrow2 (Nat.le_refl _) (fun k hk=>by cases hk);have hI2:IBlk w2 g (List.replicate N 0):=HI1.out.same (hb2.block g hgl1);clear hown2 hgrow2 HI1;obtain⟨gl,hgl⟩:∃gl,gl=w1.heap.size:=⟨_,rfl⟩;rw[←hgl]at hL2;simp only[←hgl];have HGL:Hid (gl=w1.heap.size):=hgl;have hgne:gl≠g:=by omega
 have hb02:Below w.heap.size w w2:=hb1.trans (hb2.mono hb1.size);clear hgl hb1 hb2;go_wp2
 go_loopw [17] (fun i wr=>∃k:Nat,k≤n∧i = .int .i64 k∧LBlk wr gl (zHz g W n k)∧IBlk wr g (List.replicate N 0)∧Below w.heap.size w wr) (fun i _=>n-(intOf i).toNat)
 case atStart=>exact⟨0,by omega,rfl,hL2,hI2,hb02⟩
 case round=>
  obtain⟨k,hk,rfl,hL,hI,hbel⟩:=hrel;by_cases hlt:k<n
  · have hc:wr.cell? ⟨gl,k,none⟩=some (.slice none 0 0):=hL.cell (by rw[zDb _ _ _ _ hlt,if_neg (by omega)])
    have hf:=hL.frozen k;obtain⟨m,hm⟩:∃m,m=k*W:=⟨_,rfl⟩;have hmN:m+W≤N:=by
     rw[hm,HN.out];have:=Nat.mul_le_mul_right W (show k+1≤n from hlt);rw[Nat.add_mul]at this;omega
    (have hwm:IntKind.i64.wrap ((k:Int)*(W:Int))=(m:Int):=by rw[←Int.natCast_mul,←hm,IntKind.wrap_i64];omega);have HL:Hid (LBlk (wr.setCell ⟨gl,k,none⟩ (.slice (some ⟨g,m,none⟩) 0 W)) gl (zHz g W n (k+1))):=by
     have:=hL.set k (.slice (some ⟨g,m,none⟩) 0 W);rw[hm,zU2]at this;rw[hm];exact this
    have HI:Hid (IBlk (wr.setCell ⟨gl,k,none⟩ (.slice (some ⟨g,m,none⟩) 0 W)) g (List.replicate N 0)):=hI.same (Below.heap_setCell _ _ _ _ (fun e=>hgne e.symm));have HB:Hid (Below w.heap.size w (wr.setCell ⟨gl,k,none⟩ (.slice (some ⟨g,m,none⟩) 0 W))):=hbel.setCell (by show w.heap.size≤gl;have:=HG.out;have:=HGL.out;omega) _;clear hL hI hm;go_wp2
    go_roundw
    (case rel=>exact⟨k+1,by omega,by go_num,HL.out,HI.out,HB.out⟩);case measure=>simp[intOf];omega
  · obtain rfl:k=n:=by omega
    go_wp2;go_ret;exact⟨g,gl,rfl,hL,hI,hbel,by have:=HG.out;omega,by have:=HG.out;have:=HGL.out;omega,hgne⟩
theorem zOh(a b:ByteArray)(w:World)(ht:Tabs w)(ha:a.size≤9223372036854775807)(hb:b.size≤9223372036854775807):
 Calls Tryz.prog 101 #[.string a,.string b] w fun e w'=>e = .returned (dsV (dsE a.data.toList b.data.toList))∧Below w.heap.size w w':=by
 go_enter Tryz.func101,Tryz.ntmps101;go_upto_region 2 with(go_at_call 132;refine(both_any a b _ ht ha hb).mono ?_;rintro e w1 ⟨vx,vy,f,rfl,hbo⟩)
 obtain⟨hb1,⟨rfl,hno⟩|⟨rfl,xs,ys,h1,h2,m1,m2⟩⟩:=hbo
 · have HF:Hid (dsE a.data.toList b.data.toList=none):=hno
   clear hno;go_wp2;go_ret2;exact⟨by rw[HF.out];rfl,hb1⟩
 have HF:Hid (dsE a.data.toList b.data.toList=some (lv xs ys)):=zRx h1 h2;have hxl:=(zU1 h1).2;have hyl:=(zU1 h2).2;clear h1 h2;have HX:Hid (RunesAt w1.heap.size w1 vx xs):=m1.runesE;have HY:Hid (RunesAt w1.heap.size w1 vy ys):=m2.runesE;clear m1 m2;obtain⟨adx,capx,rfl⟩:=HX.out.form;obtain⟨ady,capy,rfl⟩:=HY.out.form;obtain⟨W,hW⟩:∃W,W=ys.length+1:=⟨_,rfl⟩;have hwW:IntKind.i64.wrap ((ys.length:Int)+1)=(W:Int):=by rw[IntKind.wrap_i64];omega
 have HW:Hid (W=ys.length+1):=hW;have hW1:1≤W:=by omega
 have hW2:W≤2000:=by omega
 clear hW;go_upto_region 5 with(go_at_call 133;refine(rows_any 2 W _ (by omega) hW1 (by omega) (by omega)).mono ?_;rintro e w2 ⟨g,gl,rfl,hL,hI,hb2,hg1,hg2,hgne⟩)
 have hL0:w2.drew.cell? ⟨gl,0,none⟩=some (.slice (some ⟨g,0,none⟩) 0 W):=hL.cell (by rw[zDb _ _ _ _ (by omega)];simp);have hL1:w2.drew.cell? ⟨gl,1,none⟩=some (.slice (some ⟨g,W,none⟩) 0 W):=hL.cell (by rw[zDb _ _ _ _ (by omega)];simp);have hS0:w2.drew.cell? ⟨gl,0,none⟩=some (.slice (some ⟨g,0,none⟩) 0 W)∧w2.drew.cell? ⟨gl,1,none⟩=some (.slice (some ⟨g,W,none⟩) 0 W):=⟨hL0,hL1⟩;have HST:=zUt w2.drew g 0 W _ ys (show IBlk w2.drew g _ from hI) (by have:=HW.out;omega) (by simp;have:=HW.out;omega) (by omega);have hgll:gl<w2.drew.heap.size:=hL.lt;have hgl2:g<w2.drew.heap.size:=hI.lt;refine zAh (S:=fun W'=>W'.cell? ⟨gl,0,none⟩=some (.slice (some ⟨g,0,none⟩) 0 W)∧W'.cell? ⟨gl,1,none⟩=some (.slice (some ⟨g,W,none⟩) 0 W)) 11 rfl zAr hS0 (fun _=>?_);refine tq4 id 0 27 1 28 2 29 3 30 ?_;simp only[sZa,sZb,sZc];refine tq4 id 4 31 6 33 7 34 8 35 ?_;simp only[sZa,sZb,sZc];refine oc 5 w2.drew 32 134 #[.slice (some ⟨g,0,none⟩) 0 W,.int .i64 ys.length] ?_;refine HST.mono ?_;rintro e w3 ⟨rfl,hI3,hb3⟩;have hS3:w3.cell? ⟨gl,0,none⟩=some (.slice (some ⟨g,0,none⟩) 0 W)∧w3.cell? ⟨gl,1,none⟩=some (.slice (some ⟨g,W,none⟩) 0 W):=by
  have e:=hb3.block gl hgll hgne;exact⟨(World.cell?_of_block (a:=⟨gl,0,none⟩) e).trans hS0.1,(World.cell?_of_block (a:=⟨gl,1,none⟩) e).trans hS0.2⟩
 refine⟨_,rfl,hS3,fun _=>?_⟩;simp only[sZa,sZb,sZc];refine zAo (i:=9) (v := .slice (some ⟨g,0,none⟩) (ys.length+1) W) (w':=w3) 10 (by kernel_rfl) rfl rfl (by rfl) (by kernel_rfl) hS3 (fun _=>?_);simp only[sZa,sZb,sZc];refine zAo (i:=10) (v := .slice (some ⟨g,W,none⟩) 0 W) (w':=w3) 11 (by kernel_rfl) rfl rfl (by rfl) (by kernel_rfl) hS3 (fun _=>?_);simp only[sZa,sZb,sZc];refine wpAnyH_done (by kernel_rfl) ?_ _;have hE3:Below w1.heap.size w1 w3:=by
  have h:=hb3.below (B:=w1.heap.size) hg1 hb2.size;exact⟨h.os.trans hb2.os,h.tape.trans hb2.tape,h.output.trans hb2.output,Nat.le_trans hb2.size h.size,fun k hk=>(h.block k hk).trans (hb2.block k hk)⟩
 have HI3:Hid (IBlk w3 g (lay (List.replicate (2*W) 0) 0 (dr [] ys))):=hI3;clear hS0 hS3 hL0 hL1 HST hI3 hL hI hb3 hb2 hgll hgl2;go_wp2
 go_loopw [10,11,38] (fun v u i wr=>∃(k fa fb q:Nat) (cs:List Int),k≤xs.length∧i = .int .i64 k∧v = .slice (some ⟨g,fa,none⟩) (ys.length+1) W∧u = .slice (some ⟨g,fb,none⟩) q W∧((fa=0∧fb=W)∨(fa=W∧fb=0))∧cs.length=2*W∧IBlk wr g cs∧(∀j,j≤ys.length→cs[fa+j]?=some (lv (xs.take k) (ys.take j):Int))∧Below w1.heap.size w1 wr) (fun _ _ i _=>xs.length-(intOf i).toNat)
 case atStart=>
  have hlen:0+(dr [] ys).length≤(List.replicate (2*W) (0:Int)).length:=by rw[zIm,List.length_replicate];have:=HW.out;omega
  refine⟨0,0,W,0,_,Nat.zero_le _,rfl,rfl,rfl,.inl ⟨rfl,rfl⟩,?_,HI3.out,fun j hj=>?_,hE3⟩
  · rw[zLj hlen,List.length_replicate]
  · rw[zWm hlen (by rw[zIm];omega),zNu _ _ hj];simp
 case round=>
  obtain⟨k,fa,fb,q,cs,hk,rfl,rfl,rfl,hfab,hcl,hI,hA,hbel⟩:=hrel;have HI:Hid (IBlk wr g cs):=hI;have HA:Hid (∀j,j≤ys.length→cs[fa+j]?=some (lv (xs.take k) (ys.take j):Int)):=hA;have HC:Hid (cs.length=2*W):=hcl;have HAB:Hid ((fa=0∧fb=W)∨(fa=W∧fb=0)):=hfab;clear hI hA hcl hfab;by_cases hlt:k<xs.length
  · obtain⟨r,hr⟩:∃r,xs[k]?=some r:=⟨_,List.getElem?_eq_getElem hlt⟩
    obtain⟨gx,offx,rfl,hgx,hcx⟩:=(HX.out.below hbel).at hr;(have HT:Hid (xs.take (k+1)=xs.take k++[r]):=by unfold Hid;rw[List.take_add_one,hr];rfl);clear hr;go_wp2_with (go_at_call 135;refine(next_any wr g fb fa W W cs (xs.take k) ys r _ w1.heap.size HI.out (by have:=HW.out;omega) (by have:=HC.out;have:=HW.out;rcases HAB.out with h|h<;>omega) HA.out (by have:=HW.out;rcases HAB.out with h|h<;>omega) (HY.out.below hbel) hg1 (by omega) (by rw[List.length_take];omega)).mono ?_;rintro e w4 ⟨rfl,hI4,hb4⟩);have hlen:Hid (fb+(dr (xs.take k++[r]) ys).length≤cs.length):=by unfold Hid;rw[zIm,HC.out];have:=HW.out;rcases HAB.out with h|h<;>omega
    go_roundw
    case rel=>
     refine⟨k+1,fb,fa,_,_,by omega,by go_num,rfl,rfl,by rcases HAB.out with h|h;exact .inr ⟨h.2,h.1⟩;exact .inl ⟨h.2,h.1⟩,?_,hI4,fun j hj=>?_,?_⟩
     · rw[zLj hlen.out];exact HC.out
     · rw[zWm hlen.out (by rw[zIm];omega),zNu _ _ hj,HT.out]
     · exact hbel.trans (hb4.below hg1 hbel.size)
    case measure=>simp[intOf];omega
  · obtain rfl:k=xs.length:=by omega
    have hc:wr.cell? ⟨g,fa+ys.length,none⟩=some (.int .i64 (lv xs ys:Int)):=by
     have:=HA.out ys.length (Nat.le_refl _);rw[List.take_of_length_le (Nat.le_refl _),List.take_of_length_le (Nat.le_refl _)]at this;exact HI.out.cell this
    go_wp2;go_ret2;exact⟨by rw[HF.out];rfl,hb1.trans (hbel.mono hb1.size)⟩
def lvF:Nat→List Int→List Int→Nat
 |0,xs,ys=>xs.length+ys.length
 |_+1,[],ys=>ys.length
 |_+1,_::xs,[]=>xs.length+1
 |f+1,x::xs,y::ys=>min (lvF f xs ys+if x=y then 0 else 1) (min (lvF f xs (y::ys)+1) (lvF f (x::xs) ys+1))
theorem zRc:∀(f:Nat) (xs ys:List Int),xs.length+ys.length≤f→lvF f xs ys=lv xs ys
 |0,xs,ys,h=>by
  have e1:xs=[]:=List.length_eq_zero_iff.1 (by omega);subst e1;rw[zCr];simp[lvF]
 |_+1,[],ys,_=>by rw[zCr];rfl
 |_+1,_::xs,[],_=>by rw[zCz];rfl
 |f+1,x::xs,y::ys,h=>by
  simp only[List.length_cons]at h;rw[zEc,lvF,zRc f xs ys (by omega),zRc f xs (y::ys) (by simp only[List.length_cons];omega),zRc f (x::xs) ys (by simp only[List.length_cons];omega)]
end
section
open Go.RowKit Nums Ed
attribute [local go_sem ↓] zKu
end
section
open Go.RowKit Nums Ed
end
section
open Go.RowKit Nums Ed
def max2(a b:Int):Int:=if a<b then b else a
theorem run_max2(ts:Array TypeId)(ty:TypeId)(k:IntKind)(a b:Int)(w:World):(Builtin.max_ ts ty #[.int k a,.int k b]).run Tryz.prog w = .ok (.int k (max2 a b)) w:=by
 simp[Builtin.max_,Builtin.max2,max2,Sem.run_pure]
attribute [local go_sem ↓] run_max2
end
section
open Go.RowKit Nums Ed Lv
abbrev bv(n:Nat):Value := .int .u8 (n:Int)
def rC(v:List Nat):Array Value:=(v.map bv).toArray
def rV(v:List Nat):Value := .agg (rC v)
theorem zO4(v:List Nat):(rC v).size=v.length:=by simp[rC]
theorem rC_one(v:List Nat):(rC v).all (·.oneCell')=true:=by
 refine all_oneCell_toArray fun x hx=>?_
 obtain⟨y,_,rfl⟩:=List.mem_map.1 hx;rfl
def celV(v:Value):Array Value:=v.cells
theorem zEp(v:List Nat):celV (rV v)=rC v:=rfl
def zeros:List Nat:=List.replicate 25 0
theorem zKg:zeros=mk fun _=>0:=by simp[zeros,mk,List.map_const']
theorem zBh:zeros.length=25:=by simp[zeros]
theorem rC_zeros:rC zeros=Array.replicate 25 (.int .u8 0):=by
 rw[rC,zeros,List.map_replicate,List.toArray_replicate];rfl
theorem zBm(w:World)(o:Obj):(w.alloc o).heap[w.heap.size]?=some o:=(MapKept.heap_alloc w o).1
theorem zB8(w:World)(o:Obj){k:Nat}(h:k<w.heap.size):(w.alloc o).heap[k]?=w.heap[k]?:=(MapKept.heap_alloc w o).2 k h
theorem zBb(w:World)(o:Obj):(w.alloc o).heap.size=w.heap.size+1:=by simp
def RAt(w:World)(b:Nat)(bs:List Nat):Prop:=w.heap[b]?=some (.cells (rC bs) 133 (0,0))
theorem RAt.lt{w:World}{b:Nat}{bs:List Nat}(h:RAt w b bs):b<w.heap.size:=(Array.getElem?_eq_some_iff.1 h).1
theorem RAt.same{w w':World}{b:Nat}{bs:List Nat}(h:RAt w b bs)(e:w'.heap[b]?=w.heap[b]?):RAt w' b bs:=e.trans h
theorem RAt.below{w w':World}{b B:Nat}{bs:List Nat}(h:RAt w b bs)(hB:b<B)(hb:Below B w w'):RAt w' b bs:=(hb.block b hB).trans h
theorem RAt.new(w:World)(bs:List Nat):RAt (w.alloc (.cells (rC bs) 133)) w.heap.size bs:=zBm _ _
theorem RAt.old{w:World}{b:Nat}{bs:List Nat}(h:RAt w b bs)(o:Obj):RAt (w.alloc o) b bs:=(zB8 w o h.lt).trans h
theorem range_rC{w:World}{b:Nat}{v:List Nat}{t:TypeId}{f:Nat×Nat}(h:w.heap[b]?=some (.cells (rC v) t f)):w.rangeAt b 0 (v.map bv):=by
 intro j u hj;simp only[World.cell?,h,Nat.zero_add,rC];simpa using hj
theorem RAt.range{w:World}{b:Nat}{bs:List Nat}(h:RAt w b bs):w.rangeAt b 0 (bs.map bv):=range_rC h
theorem RAt.cell{w:World}{b:Nat}{bs:List Nat}(h:RAt w b bs){i:Nat}(hi:i<bs.length):w.cell? ⟨b,i,none⟩=some (bv (bs.getD i 0)):=by
 have:=h.range i (bv (bs.getD i 0)) (by rw[List.getElem?_map,List.getElem?_eq_getElem hi];simp[List.getD_eq_getElem?_getD,List.getElem?_eq_getElem hi]);simpa using this
theorem RAt.frozen{w:World}{b:Nat}{bs:List Nat}(h:RAt w b bs)(o:Nat):w.frozen? ⟨b,o,none⟩=false:=by
 unfold RAt at h;simp[World.frozen?,h]
theorem RAt.there{w:World}{b:Nat}{bs:List Nat}(h:RAt w b bs)(n:Nat)(hn:n≤bs.length):w.there b 0 n:=fun j hj=>⟨by rw[Nat.zero_add,h.cell (by omega)];rfl,h.frozen _⟩
theorem RAt.set{w:World}{b k x:Nat}{bs:List Nat}(h:RAt w b bs):RAt (w.setCell ⟨b,k,none⟩ (bv x)) b (bs.set k x):=by
 unfold RAt at h ⊢;simp only[World.setCell,Array.getElem?_modify,h];simp[rC,List.map_set]
theorem RAt.off{w:World}{b c k:Nat}{bs:List Nat}{v:Value}(h:RAt w b bs)(hne:b≠c):RAt (w.setCell ⟨c,k,none⟩ v) b bs:=(Below.heap_setCell _ _ _ _ hne).trans h
def spl(C:Array Value):Nat→List Value→Array Value
 |_,[]=>C
 |o,v::r=>spl (C.setIfInBounds o v) (o+1) r
theorem spl_size(vs:List Value):∀(C:Array Value) (o:Nat),(spl C o vs).size=C.size:=by
 induction vs with
 |nil=>intro C o;rfl
 |cons v r ih=>intro C o;rw[spl,ih];simp
theorem spl_get(vs:List Value):∀(C:Array Value) (o i:Nat),i<C.size→(spl C o vs)[i]?=if o≤i∧i<o+vs.length then vs[i-o]? else C[i]?:=by
 induction vs with
 |nil=>intro C o i hi;rw[spl,if_neg];simp
 |cons v r ih=>
  intro C o i hi;rw[spl,ih _ _ _ (by simpa using hi)];by_cases h1:o+1≤i∧i<o+1+r.length
  · rw[if_pos h1,if_pos (by simp;omega)]
    (have e:i-o=(i-(o+1))+1:=by omega);rw[e,List.getElem?_cons_succ]
  · rw[if_neg h1]
    by_cases h2:i=o
    · subst h2
      rw[if_pos (by simp)];simp[hi]
    · rw[if_neg (by simp;omega),Array.getElem?_setIfInBounds_ne (by omega)]
theorem spl_full(C:Array Value)(vs:List Value)(h:vs.length=C.size):spl C 0 vs=vs.toArray:=by
 apply Array.ext_getElem?;intro i;by_cases hi:i<C.size
 · rw[spl_get _ _ _ _ hi,if_pos (by omega)];simp
 · rw[Array.getElem?_eq_none (by rw[spl_size];omega),Array.getElem?_eq_none (by simp;omega)]
structure One(b:Nat)(w w':World):Prop where
 os:w'.os=w.os
 tape:w'.tape=w.tape
 output:w'.output=w.output
 size:w'.heap.size=w.heap.size
 block:∀k,k≠b→w'.heap[k]?=w.heap[k]?
theorem one_set(w:World)(p o:Nat)(v:Value):One p w (w.setCell ⟨p,o,none⟩ v):=⟨rfl,rfl,rfl,by simp[World.setCell],fun k hk=>Below.heap_setCell _ _ _ _ hk⟩
theorem One.trans{p:Nat}{a b c:World}(h:One p a b)(k:One p b c):One p a c:=⟨k.os.trans h.os,k.tape.trans h.tape,k.output.trans h.output,k.size.trans h.size,fun i hi=>(k.block i hi).trans (h.block i hi)⟩
theorem One.below{B p:Nat}{a b c:World}(k:Below B a b)(h:One p b c)(hB:B≤p):Below B a c:=
 k.trans ⟨h.os,h.tape,h.output,Nat.le_of_eq h.size.symm,fun j hj=>h.block j (by omega)⟩
theorem zOt{b:Nat}{t:TypeId}{f:Nat×Nat}(vs:List Value):∀(w:World) (C:Array Value) (o:Nat),w.heap[b]?=some (.cells C t f)→(w.setCells b o vs).heap[b]?=some (.cells (spl C o vs) t f)∧One b w (w.setCells b o vs):=by
 induction vs with
 |nil=>intro w C o h;exact⟨h,⟨rfl,rfl,rfl,rfl,fun _ _=>rfl⟩⟩
 |cons v r ih=>
  intro w C o h;have hs:(w.setCell ⟨b,o,none⟩ v).heap[b]?=some (.cells (C.setIfInBounds o v) t f):=by simp[World.setCell,Array.getElem?_modify,h]
  obtain⟨h1,h2⟩:=ih (w.setCell ⟨b,o,none⟩ v) (C.setIfInBounds o v) (o+1) hs;exact⟨h1,(one_set w b o v).trans h2⟩
def setR(w:World)(b:Nat)(ys:List Nat):World:=w.setCells b 0 (ys.map bv)
theorem RAt.put{w:World}{b:Nat}{bs ys:List Nat}(h:RAt w b bs)(hl:ys.length=bs.length):RAt (setR w b ys) b ys∧One b w (setR w b ys):=by
 obtain⟨h1,h2⟩:=zOt (ys.map bv) w (rC bs) 0 h;rw[spl_full _ _ (by rw[List.length_map,zO4,hl])]at h1;exact⟨h1,h2⟩
theorem zHj:(Tryz.prog.info? 133).map (fun i=>(i.zero,i.size,i.bytes))=some (some (.agg (Array.replicate 25 (.int .u8 0))),25,25):=by kernel_rfl
theorem zero_Row(w:World):(zeroValue 133).run Tryz.prog w = .ok (rV zeros) w:=by
 obtain⟨i,hi,hz,hs,hb⟩:=info_parts zHj;rw[rV,rC_zeros];simp[zeroValue,typeInfo,hi,hz,Result.andThen]
def zGs(P:Program)(x:Value)(w:World):Result Value:=(Instr.loadAt 133 x).run P w
def zJj(P:Program)(x y:Value)(w:World):Result Unit:=(Instr.storeAt 133 x y).run P w
section
variable (ρ:Operand→Value) (x y:Operand) (dst:Option Tmp) (ty:TypeId) (pos:String) (af:Array Edge) (g:Option (Nat×Bool)) (w:World)
theorem zA8:(execOp ρ ⟨dst,.alloc 133,ty,pos,af,g⟩).run Tryz.prog w = .ok (.value (.pointer (some ⟨w.heap.size,0,none⟩))) (w.alloc (.cells (rC zeros) 133)):=by
 simp only[execOp,Sem.run_bind,Instr.alloc,zero_Row,Result.andThen,newVar,newRow];rfl
theorem zCl:(execOp ρ ⟨dst,.box 133 x,ty,pos,af,g⟩).run Tryz.prog w = .ok (.value (.pointer (some ⟨w.heap.size,0,none⟩))) (w.alloc (.cells (celV (ρ x)) 133)):=by
 simp only[execOp,Sem.run_bind,Instr.box,newVar,newRow];rfl
theorem zAz:(execOp ρ ⟨dst,.load 133 x,ty,pos,af,g⟩).run Tryz.prog w=(zGs Tryz.prog (ρ x) w).andThen (fun v w' => .ok (.value v) w'):=by
 simp only[execOp,Sem.run_bind,zGs,Sem.run_pure]
theorem zA7:(execOp ρ ⟨dst,.store 133 x y,ty,pos,af,g⟩).run Tryz.prog w=(zJj Tryz.prog (ρ x) (ρ y) w).andThen (fun _ w' => .ok .skip w'):=by
 simp only[execOp,Sem.run_bind,zJj,Sem.run_pure]
end
theorem zBl{w:World}{b o:Nat}{bs:List Nat}(h:w.rangeAt b o (bs.map bv))(hl:bs.length=25):zGs Tryz.prog (.pointer (some ⟨b,o,none⟩)) w = .ok (rV bs) w:=by
 obtain⟨i,hi,hz,hs,hb⟩:=info_parts zHj;have:=run_loadVar_mid (P:=Tryz.prog) w b o 133 (bs.map bv) _ h Tryz.underlying133 rfl (by rw[hi];simp[hs,hl]);simp only[zGs,Instr.loadAt,Instr.sureAddr,Sem.run_bind,Sem.run_pure,Result.andThen_ok,this];rfl
theorem zCo{w:World}{b:Nat}{bs vs:List Nat}(h:RAt w b bs)(hl:bs.length=25)(hv:vs.length=25):zJj Tryz.prog (.pointer (some ⟨b,0,none⟩)) (rV vs) w = .ok () (setR w b vs):=by
 obtain⟨i,hi,hz,hs,hb⟩:=info_parts zHj;rw[zJj,rV,run_storeAt_mid _ _ _ _ (rC vs) (by rw[zO4];exact h.there _ (by omega)) (by rw[hi,zO4];simp[hs,hv]) (rC_one vs)];simp[setR,rC]
theorem zO0{fn:Func}{R:Ending→World→Prop}{a:Act}{w:World}{b s:Nat}{bs:List Nat}(hf:fn.results=#[.cell s 133])(hs:a.tmps[s]?=some (.pointer (some ⟨b,0,none⟩)))(hl:bs.length=25)(h:RAt w b bs)(hd:a.defers=[])(hR:R (.returned (rV bs)) w):bodyPost Tryz.prog fn R .ret a w:=by
 refine bodyPost_ret ?_ hd hR;obtain⟨i,hi,hz,hz1,hb⟩:=info_parts zHj;have h2:=run_loadVar_mid (P:=Tryz.prog) w b 0 133 (bs.map bv) _ h.range Tryz.underlying133 rfl (by rw[hi];simp[hz1,hl]);simp[results,hf,hs,asAddr];exact h2
theorem zVb{l:List Nat}(h:∀x∈l,x<256):rC l=((l.map UInt8.ofNat).map Extern.Stop.cell).toArray:=by
 unfold rC;congr 1;rw[List.map_map];refine List.map_congr_left fun x hx=>?_
 have hx2:=h x hx;simp[Extern.Stop.cell,Nat.mod_eq_of_lt hx2]
theorem ofNat_inj:∀{l m:List Nat},(∀x∈l,x<256)→(∀x∈m,x<256)→l.map UInt8.ofNat=m.map UInt8.ofNat→l=m
 |[],[],_,_,_=>rfl
 |[],_::_,_,_,h=>by simp at h
 |_::_,[],_,_,h=>by simp at h
 |x::l,y::m,h1,h2,h=>by
  simp only[List.map_cons,List.cons.injEq]at h;have hx:=h1 x (.head _);have hy:=h2 y (.head _);have h3:=congrArg UInt8.toNat h.1;simp[Nat.mod_eq_of_lt hx,Nat.mod_eq_of_lt hy]at h3;rw[h3,ofNat_inj (fun z hz=>h1 z (.tail _ hz)) (fun z hz=>h2 z (.tail _ hz)) h.2]
theorem infoB:(Tryz.prog.info? 5).map (fun i=>(i.zero,i.size,i.bytes))=some (some (.int .u8 0),1,1):=by kernel_rfl
theorem eql_row{bs cs:List Nat}(hb:bs.length=25)(hc:cs.length=25)(h1:∀x∈bs,x<256)(h2:∀x∈cs,x<256)(w:World):
 (binOp .eql 133 (rV bs) (rV cs)).run Tryz.prog w = .ok (.bool (decide (bs=cs))) w:=by
 obtain⟨i0,hi,hz0,hz1,hz2⟩:=info_parts infoB;have hsz:∀w,(sizeOf 5).run Tryz.prog w = .ok 1 w:=fun w=>by simp[sizeOf,typeInfo,hi,hz1,Result.andThen]
 unfold rV;rw[zVb h1,zVb h2,run_eql_bytes w 133 5 25 Tryz.underlying133 Tryz.underlying5 hsz _ _ (by simpa using hb) (by simpa using hc)];congr 2;rw[Bool.eq_iff_iff,beq_iff_eq,decide_eq_true_iff];exact⟨ofNat_inj h1 h2,fun h=>by rw[h]⟩
theorem neq_row{bs cs:List Nat}(hb:bs.length=25)(hc:cs.length=25)(h1:∀x∈bs,x<256)(h2:∀x∈cs,x<256)(w:World):
 (binOp .neq 133 (rV bs) (rV cs)).run Tryz.prog w = .ok (.bool (!decide (bs=cs))) w:=by
 have h:=eql_row hb hc h1 h2 w;unfold rV at h ⊢;rw[run_eql_struct]at h;rw[run_neq_struct];generalize (Op.equalIn 10000 133 (.agg (rC bs)) (.agg (rC cs))).run Tryz.prog w=o at h ⊢;cases o with
 |ok b w1=>
  simp only[Result.andThen_ok,Result.ok.injEq,Value.bool.injEq]at h;obtain⟨rfl,rfl⟩:=h;rfl
 |_=>simp[Result.andThen]at h
theorem zXb(op:BinOp)(x y:Operand)(bs cs:List Nat)(W:World):(eqGuard op 133 x y (rV bs) (rV cs)).run Tryz.prog W = .ok () W:=run_eqGuard_agg W _ _ x y _ _ (by kernel_rfl)
end
